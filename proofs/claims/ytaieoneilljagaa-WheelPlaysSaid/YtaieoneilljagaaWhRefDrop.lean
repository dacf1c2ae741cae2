/-
  The reference's Drop.
-/
import Derived.Test.YtaieoneilljagaaWhRefRows
import Derived.Test.YtaieoneilljagaaLastOp
namespace Go.Proofs.Ytaieoneilljagaa
open Go.RowKit

theorem obj_set {w : World} {g o : Nat} {cs : Array Value} {t : TypeId} (h : w.heap[g]? = some (.cells cs t (0, 0))) (v : Value) :
    (w.setCell ⟨g, o, none⟩ v).heap[g]? = some (.cells (cs.setIfInBounds o v) t (0, 0)) := heap_setCell_same w g o cs t v h

theorem ownsRow_keep {w w' : World} {base n size : Nat} {e : TypeId} {A : Option Addr} {cap : Nat} {xs : List Value} (h : w.ownsRow base e size (.slice A n cap) n xs) (hk : ∀ a, A = some a → w'.heap[a.block]? = w.heap[a.block]?) : w'.ownsRow base e size (.slice A n cap) n xs := by
  refine ⟨h.1, ?_⟩
  rcases h.2 with e | ⟨g, c', cur, e, hb, hg, r⟩
  · exact .inl e
  · injection e with e1 e2 e3
    subst e1 e3
    exact .inr ⟨g, _, cur, rfl, hb, by rw [hk _ rfl]; exact hg, r⟩
theorem Wh.del_at {run task : Int} : ∀ {l : List Wh.T} {k : Nat} {a : Wh.T}, (l.Pairwise fun a b => Wh.same b a.run a.task = false) → l[k]? = some a → Wh.same a run task = true → Wh.del run task l = l.take k ++ l.drop (k + 1)
  | [], k, a, _, h, _ => by simp at h
  | b :: l, 0, a, hp, h, hs => by
    simp only [List.getElem?_cons_zero, Option.some.injEq] at h
    subst h
    obtain ⟨hr, ht⟩ := Wh.same_iff.1 hs
    subst hr ht
    unfold Wh.del
    rw [List.filter_cons, if_neg (by rw [hs]; simp)]
    simp only [List.take_zero, List.nil_append, Nat.zero_add, List.drop_succ_cons, List.drop_zero]
    exact List.filter_eq_self.2 fun c hc => by rw [(List.pairwise_cons.1 hp).1 c hc]; rfl
  | b :: l, k + 1, a, hp, h, hs => by
    have hp' := List.pairwise_cons.1 hp
    have hk : k < l.length := by
      rcases Nat.lt_or_ge k l.length with h1 | h1
      · exact h1
      · rw [List.getElem?_cons_succ, List.getElem?_eq_none h1] at h; cases h
    rw [List.getElem?_cons_succ] at h
    have hb : Wh.same b run task = false := by
      have ha : a ∈ l := List.mem_of_getElem? h
      have h2 := hp'.1 a ha
      obtain ⟨hr, ht⟩ := Wh.same_iff.1 hs
      subst hr ht
      cases hc : Wh.same b a.run a.task with
      | false => rfl
      | true =>
        obtain ⟨e1, e2⟩ := Wh.same_iff.1 hc
        rw [e1, e2] at h2
        rw [Wh.same_iff.2 ⟨rfl, rfl⟩] at h2
        exact absurd h2 (by simp)
    have ih := Wh.del_at (run := run) (task := task) hp'.2 h hs
    unfold Wh.del at ih ⊢
    rw [List.filter_cons, if_pos (by rw [hb]; rfl), ih]
    rfl
theorem Wh.del_no {run task : Int} {l : List Wh.T} (h : l.find? (fun a => Wh.same a run task) = none) : Wh.del run task l = l :=
  List.filter_eq_self.2 fun a ha => by have := List.find?_eq_none.1 h a ha; simpa using this
/-- Another row of timers, stored in the object. -/
theorem RW.newrow {w w6 : World} {g : Nat} {O : Nat → Prop} {s : Wh.S} (h : RW w g O s) (hb : Below w.heap.size w w6) {l : List Wh.T} {A6 : Option Addr} {n6 c6 : Nat} (hn : n6 = l.length)
    (hrow : w6.ownsRow w.heap.size 39 3 (.slice A6 n6 c6) n6 (flatW l)) (hok : ∀ a ∈ l, a.ok) (hf : l.length ≤ 1000000) :
    RW (w6.setCell ⟨g, 1, none⟩ (.slice A6 n6 c6)) g (fun j => O j ∨ ∃ a, A6 = some a ∧ j = a.block) ⟨s.now, l⟩ ∧ Step O (fun j => O j ∨ ∃ a, A6 = some a ∧ j = a.block) w (w6.setCell ⟨g, 1, none⟩ (.slice A6 n6 c6)) := by
  subst hn
  have hR := h.lt _ h.own
  obtain ⟨A, cap, h1, h2, h3⟩ := h.obj
  have to6 := (hb.block g hR).trans h1
  have o1 := obj_set (o := 1) to6 (.slice A6 l.length c6)
  have hkb : ∀ k, k ≠ g → (w6.setCell ⟨g, 1, none⟩ (.slice A6 l.length c6)).heap[k]? = w6.heap[k]? := fun k hk => Below.heap_setCell _ _ _ _ hk
  have hsz : (w6.setCell ⟨g, 1, none⟩ (.slice A6 l.length c6)).heap.size = w6.heap.size := by simp [World.setCell]
  have hA : ∀ a, A6 = some a → w.heap.size ≤ a.block ∧ a.block < w6.heap.size := fun a ha => by subst ha; exact World.ownsRow.lt hrow a.block (by simp [Value.ownBlock])
  refine ⟨⟨⟨A6, c6, ?_, ownsRow_capW hrow, ?_⟩, .inl h.own, fun k hk => ?_, h.now, hf⟩, ⟨(Only.of hb).trans (Only.set O 1 w6 _ h.own) (fun _ h => .inl h), fun k hk => ?_⟩⟩
  · rw [o1]; simp
  · exact Dues.row (ownsRow_keep hrow fun a ha => hkb _ (by have := (hA a ha).1; omega)) hok fun a ha => .inr ⟨a, ha, rfl⟩
  · rw [hsz]
    rcases hk with h1 | ⟨a, ha, rfl⟩
    · exact Nat.lt_of_lt_of_le (h.lt k h1) hb.size
    · exact (hA a ha).2
  · rcases hk with h1 | ⟨a, ha, rfl⟩
    · exact .inl h1
    · exact .inr (hA a ha).1
set_option maxRecDepth 20000 in
set_option maxHeartbeats 4000000 in
theorem refDrop_any (g : Nat) (O : Nat → Prop) (s : Wh.S) (run task : Int) (w : World) (h : RW w g O s) (hI : Wh.Inv s) :
    Calls Try.prog 16 #[.pointer (some ⟨g, 0, none⟩), .int .i64 run, .int .i64 task] w fun e w' => e = .returned (.bool (Wh.dropB s run task)) ∧ ∃ O2, RW w' g O2 (Wh.dropS s run task) ∧ Step O O2 w w' ∧ ∀ j, O j → O2 j := by
  have FI : Hid (Calls Try.prog 25 #[.pointer (some ⟨g, 0, none⟩), .int .i64 run, .int .i64 task] w fun e w' => e = .returned (.int .i64 (Wh.idx s.l run task)) ∧ w = w') := Lib.hid (refFind_any g O s run task w h)
  have H := Lib.hid h
  rcases Wh.find_idx s.l run task with ⟨e1, e2⟩ | ⟨k, a, e1, hk, ha, e2⟩
  · have E : Hid (Wh.dropB s run task = false) := Lib.hid (by unfold Wh.dropB Wh.findV; rw [e2]; rfl)
    have E2 : Hid (Wh.dropS s run task = s) := Lib.hid (by unfold Wh.dropS; rw [Wh.del_no e2])
    rw [e1] at FI
    clear h hI e1 e2
    go_enter Try.func16, Try.ntmps16
    go_wp2_with fail
    (with_reducible refine FI.out.mono ?_); rintro e _ ⟨rfl, rfl⟩
    go_wp2
    go_ret
    rw [E.out, E2.out]
    exact ⟨rfl, O, H.out, Step.refl _ _, fun _ h => h⟩
  · have E : Hid (Wh.dropB s run task = true) := Lib.hid (by unfold Wh.dropB Wh.findV; rw [e2]; rfl)
    have hs : Wh.same a run task = true := by have := List.find?_some e2; exact this
    have E2 : Hid (Wh.dropS s run task = ⟨s.now, s.l.take k ++ s.l.drop (k + 1)⟩) := Lib.hid (by unfold Wh.dropS; rw [Wh.del_at hI.once ha hs])
    rw [e1] at FI
    obtain ⟨A, cap, h1, hcap, h3⟩ := h.obj
    obtain ⟨⟨_, c1⟩, _, f1⟩ := obW h1
    have FZ := Lib.hid f1
    have hf := h.few
    have SRC := Lib.hid h3.src
    have HK := Lib.hid hk
    have OK : Hid (∀ a ∈ s.l.take k ++ s.l.drop (k + 1), a.ok) := Lib.hid fun b hb => by
      rcases List.mem_append.1 hb with hb | hb
      · exact h3.1 b (List.mem_of_mem_take hb)
      · exact h3.1 b (List.mem_of_mem_drop hb)
    obtain ⟨n, hN⟩ : ∃ n, n = s.l.length := ⟨_, rfl⟩
    have LT : Hid ((flatW (s.l.take k)).length = k * 3) := Lib.hid (by rw [flatW_len, List.length_take]; omega)
    have LD : Hid ((flatW (s.l.drop (k + 1))).length = (n - (k + 1)) * 3) := Lib.hid (by rw [flatW_len, List.length_drop, hN])
    have S1 : Hid (SrcW w w.heap.size A (flatW (s.l.take k))) := Lib.hid (by rw [← flatW_take]; exact SRC.out.head _)
    have S2 : Hid (SrcW w w.heap.size (tailW A cap (k + 1)) (flatW (s.l.drop (k + 1)))) := Lib.hid (by rw [← flatW_drop]; exact SRC.out.tail _ _ (by rw [flatW_len]; omega))
    have LEN : Hid ((s.l.take k ++ s.l.drop (k + 1)).length ≤ 1000000) := Lib.hid (by rw [List.length_append, List.length_take, List.length_drop]; omega)
    rw [← hN] at c1 hk hcap hf
    have hs1 := fun W => slice_toW A n cap k (by omega) .i64 W
    have hs2 : ∀ W, (Instr.slice 40 (.slice A n cap) (some (.int .i64 ((k : Int) + 1))) none none).run Try.prog W = .ok (.slice (tailW A cap (k + 1)) (n - (k + 1)) (cap - (k + 1))) W := fun W => slice_fromW A n cap (k + 1) (by omega) .i64 W
    have hw1 : IntKind.i64.wrap ((k : Int) + 1) = (k : Int) + 1 := IntWalk.i64_in _ (by omega)
    have hkn : k + (n - (k + 1)) ≤ 2000000 := by omega
    have hk1 : 0 + k ≤ 2000000 := by omega
    have HN := Lib.hid hN
    obtain ⟨n2, hn2⟩ : ∃ n2, k + (n - (k + 1)) = n2 := ⟨_, rfl⟩
    have hkr := Lib.hid hn2
    clear hn2
    have BA : Hid (Below w.heap.size w (w.alloc (.cells #[] 39)).drew) := Lib.hid (((Below.refl _ _).alloc (Nat.le_refl _) _).drew)
    have lR : g < w.heap.size := h.lt _ h.own
    have y1 : (w.alloc (.cells #[] 39)).drew.cell? ⟨g, 1, none⟩ = some (.slice A n cap) := (BA.out.cell (p := ⟨g, 1, none⟩) lR).trans c1
    have hneg : decide ((k : Int) < 0) = false := decide_eq_false (by omega)
    clear h hI hN hcap hf hk h1 h3 f1 e1 e2 ha hs
    go_enter Try.func16, Try.ntmps16
    go_wp2_with fail
    (with_reducible refine FI.out.mono ?_); rintro e _ ⟨rfl, rfl⟩
    go_wp2_with fail
    refine wp_region_C (fun w' => w'.cell? ⟨g, 1, none⟩ = some (.slice A n cap)) 19 (by kernel_rfl) ?_
    have hS0 : (fun w' : World => w'.cell? ⟨g, 1, none⟩ = some (.slice A n cap)) w.drew := c1
    refine wpAnyC_take (i := 0) (oi := ?o1) (v := ?v1) ?hi1 (by kernel_rfl) (by kernel_rfl) (by kernel_rfl) ?hQ1 (by kernel_rfl) (by decide) (by kernel_rfl) (Or.inl ⟨?hg1, ?hy1⟩) (by assumption) ?rest1
    case hi1 => (simp only [List.getElem?_toArray, List.getElem?_cons_zero]; exact rfl)
    case hQ1 => exact fun _ _ _ h => h
    case hg1 => rfl
    case hy1 => (intro w' hSw; (try dsimp only at hSw); go_simp; try with_reducible rfl)
    try simp only [Act.put, List.setIfInBounds_toArray, List.set_cons_zero, List.set_cons_succ]
    refine wpAnyC_take (i := 2) (oi := ?o2) (v := ?v2) ?hi2 (by kernel_rfl) (by kernel_rfl) (by kernel_rfl) ?hQ2 (by kernel_rfl) (by decide) (by kernel_rfl) (Or.inl ⟨?hg2, ?hy2⟩) (by assumption) ?rest2
    case hi2 => (simp only [List.getElem?_toArray, List.getElem?_cons_zero, List.getElem?_cons_succ]; exact rfl)
    case hQ2 => exact fun _ _ _ h => h
    case hg2 => rfl
    case hy2 => (intro w' hSw; (try dsimp only at hSw); go_simp; try with_reducible rfl)
    try simp only [Act.put, List.setIfInBounds_toArray, List.set_cons_zero, List.set_cons_succ]
    refine wpAnyC_take (i := 3) (oi := ?o3) (v := ?v3) ?hi3 (by kernel_rfl) (by kernel_rfl) (by kernel_rfl) ?hQ3 (by kernel_rfl) (by decide) (by kernel_rfl) (Or.inl ⟨?hg3, ?hy3⟩) (by assumption) ?rest3
    case hi3 => (simp only [List.getElem?_toArray, List.getElem?_cons_zero, List.getElem?_cons_succ]; exact rfl)
    case hQ3 => exact fun _ _ _ h => h
    case hg3 => rfl
    case hy3 => (intro w' hSw; (try dsimp only at hSw); go_simp; try with_reducible rfl)
    try simp only [Act.put, List.setIfInBounds_toArray, List.set_cons_zero, List.set_cons_succ]
    refine wpAnyC_take (i := 4) (oi := ?o4) (v := ?v4) ?hi4 (by kernel_rfl) (by kernel_rfl) (by kernel_rfl) ?hQ4 (by kernel_rfl) (by decide) (by kernel_rfl) (Or.inl ⟨?hg4, ?hy4⟩) (by assumption) ?rest4
    case hi4 => (simp only [List.getElem?_toArray, List.getElem?_cons_zero, List.getElem?_cons_succ]; exact rfl)
    case hQ4 => exact fun _ _ _ h => h
    case hg4 => rfl
    case hy4 => (intro w' hSw; (try dsimp only at hSw); go_simp; try with_reducible rfl)
    try simp only [Act.put, List.setIfInBounds_toArray, List.set_cons_zero, List.set_cons_succ]
    refine wpAnyC_take (i := 5) (oi := ?o5) (v := ?v5) ?hi5 (by kernel_rfl) (by kernel_rfl) (by kernel_rfl) ?hQ5 (by kernel_rfl) (by decide) (by kernel_rfl) (Or.inl ⟨?hg5, ?hy5⟩) (by assumption) ?rest5
    case hi5 => (simp only [List.getElem?_toArray, List.getElem?_cons_zero, List.getElem?_cons_succ]; exact rfl)
    case hQ5 => exact fun _ _ _ h => h
    case hg5 => rfl
    case hy5 => (intro w' hSw; (try dsimp only at hSw); go_simp; try with_reducible rfl)
    try simp only [Act.put, List.setIfInBounds_toArray, List.set_cons_zero, List.set_cons_succ]
    refine wpAnyC_take (i := 6) (oi := ?o6) (v := ?v6) ?hi6 (by kernel_rfl) (by kernel_rfl) (by kernel_rfl) ?hQ6 (by kernel_rfl) (by decide) (by kernel_rfl) (Or.inl ⟨?hg6, ?hy6⟩) (by assumption) ?rest6
    case hi6 => (simp only [List.getElem?_toArray, List.getElem?_cons_zero, List.getElem?_cons_succ]; exact rfl)
    case hQ6 => exact fun _ _ _ h => h
    case hg6 => rfl
    case hy6 => (intro w' hSw; (try dsimp only at hSw); go_simp; try with_reducible rfl)
    try simp only [Act.put, List.setIfInBounds_toArray, List.set_cons_zero, List.set_cons_succ]
    refine wpAnyC_take (i := 7) (oi := ?o7) (v := ?v7) ?hi7 (by kernel_rfl) (by kernel_rfl) (by kernel_rfl) ?hQ7 (by kernel_rfl) (by decide) (by kernel_rfl) (Or.inl ⟨?hg7, ?hy7⟩) (by assumption) ?rest7
    case hi7 => (simp only [List.getElem?_toArray, List.getElem?_cons_zero, List.getElem?_cons_succ]; exact rfl)
    case hQ7 => exact fun _ _ _ h => h
    case hg7 => rfl
    case hy7 => (intro w' hSw; (try dsimp only at hSw); go_simp; try with_reducible rfl)
    try simp only [Act.put, List.setIfInBounds_toArray, List.set_cons_zero, List.set_cons_succ]
    refine wpAnyC_take (i := 9) (oi := ?o8) (v := ?v8) ?hi8 (by kernel_rfl) (by kernel_rfl) (by kernel_rfl) ?hQ8 (by kernel_rfl) (by decide) (by kernel_rfl) (Or.inl ⟨?hg8, ?hy8⟩) (by assumption) ?rest8
    case hi8 => (simp only [List.getElem?_toArray, List.getElem?_cons_zero, List.getElem?_cons_succ]; exact rfl)
    case hQ8 => exact fun _ _ _ h => h
    case hg8 => rfl
    case hy8 => (intro w' hSw; (try dsimp only at hSw); go_simp; try with_reducible rfl)
    try simp only [Act.put, List.setIfInBounds_toArray, List.set_cons_zero, List.set_cons_succ]
    refine wpAnyC_take (i := 10) (oi := ?o9) (v := ?v9) ?hi9 (by kernel_rfl) (by kernel_rfl) (by kernel_rfl) ?hQ9 (by kernel_rfl) (by decide) (by kernel_rfl) (Or.inl ⟨?hg9, ?hy9⟩) (by assumption) ?rest9
    case hi9 => (simp only [List.getElem?_toArray, List.getElem?_cons_zero, List.getElem?_cons_succ]; exact rfl)
    case hQ9 => exact fun _ _ _ h => h
    case hg9 => rfl
    case hy9 => (intro w' hSw; (try dsimp only at hSw); go_simp; try with_reducible rfl)
    try simp only [Act.put, List.setIfInBounds_toArray, List.set_cons_zero, List.set_cons_succ]
    refine wpAnyC_take (i := 11) (oi := ?o10) (v := ?v10) ?hi10 (by kernel_rfl) (by kernel_rfl) (by kernel_rfl) ?hQ10 (by kernel_rfl) (by decide) (by kernel_rfl) (Or.inl ⟨?hg10, ?hy10⟩) (by assumption) ?rest10
    case hi10 => (simp only [List.getElem?_toArray, List.getElem?_cons_zero, List.getElem?_cons_succ]; exact rfl)
    case hQ10 => exact fun _ _ _ h => h
    case hg10 => rfl
    case hy10 => (intro w' hSw; (try dsimp only at hSw); go_simp; try with_reducible rfl)
    try simp only [Act.put, List.setIfInBounds_toArray, List.set_cons_zero, List.set_cons_succ]
    refine wpAnyC_take (i := 12) (oi := ?o11) (v := ?v11) ?hi11 (by kernel_rfl) (by kernel_rfl) (by kernel_rfl) ?hQ11 (by kernel_rfl) (by decide) (by kernel_rfl) (Or.inl ⟨?hg11, ?hy11⟩) (by assumption) ?rest11
    case hi11 => (simp only [List.getElem?_toArray, List.getElem?_cons_zero, List.getElem?_cons_succ]; exact rfl)
    case hQ11 => exact fun _ _ _ h => h
    case hg11 => rfl
    case hy11 => (intro w' hSw; (try dsimp only at hSw); go_simp; try with_reducible rfl)
    try simp only [Act.put, List.setIfInBounds_toArray, List.set_cons_zero, List.set_cons_succ]
    refine wpAnyC_take (i := 13) (oi := ?o12) (v := ?v12) ?hi12 (by kernel_rfl) (by kernel_rfl) (by kernel_rfl) ?hQ12 (by kernel_rfl) (by decide) (by kernel_rfl) (Or.inl ⟨?hg12, ?hy12⟩) (by assumption) ?rest12
    case hi12 => (simp only [List.getElem?_toArray, List.getElem?_cons_zero, List.getElem?_cons_succ]; exact rfl)
    case hQ12 => exact fun _ _ _ h => h
    case hg12 => rfl
    case hy12 => (intro w' hSw; (try dsimp only at hSw); go_simp; try with_reducible rfl)
    try simp only [Act.put, List.setIfInBounds_toArray, List.set_cons_zero, List.set_cons_succ]
    refine wpAnyC_take (i := 14) (oi := ?o13) (v := ?v13) ?hi13 (by kernel_rfl) (by kernel_rfl) (by kernel_rfl) ?hQ13 (by kernel_rfl) (by decide) (by kernel_rfl) (Or.inl ⟨?hg13, ?hy13⟩) (by assumption) ?rest13
    case hi13 => (simp only [List.getElem?_toArray, List.getElem?_cons_zero, List.getElem?_cons_succ]; exact rfl)
    case hQ13 => exact fun _ _ _ h => h
    case hg13 => rfl
    case hy13 => (intro w' hSw; (try dsimp only at hSw); go_simp; try with_reducible rfl)
    try simp only [Act.put, List.setIfInBounds_toArray, List.set_cons_zero, List.set_cons_succ]
    refine wpAnyC_take (i := 15) (oi := ?o14) (v := ?v14) ?hi14 (by kernel_rfl) (by kernel_rfl) (by kernel_rfl) ?hQ14 (by kernel_rfl) (by decide) (by kernel_rfl) (Or.inl ⟨?hg14, ?hy14⟩) (by assumption) ?rest14
    case hi14 => (simp only [List.getElem?_toArray, List.getElem?_cons_zero, List.getElem?_cons_succ]; exact rfl)
    case hQ14 => exact fun _ _ _ h => h
    case hg14 => rfl
    case hy14 => (intro w' hSw; (try dsimp only at hSw); go_simp; try with_reducible rfl)
    try simp only [Act.put, List.setIfInBounds_toArray, List.set_cons_zero, List.set_cons_succ]
    have hS1 : (fun w' : World => w'.cell? ⟨g, 1, none⟩ = some (.slice A n cap)) (w.alloc (.cells #[] 39)).drew := y1
    refine wpAnyC_one (i := 1) (oi := ?o15) ?hi15 (by kernel_rfl) ?step15
    case hi15 => (simp only [List.getElem?_toArray, List.getElem?_cons_zero, List.getElem?_cons_succ]; exact rfl)
    intro K' hK
    go_simp
    refine hK.out _ _ ?_ (fun hHeld => ?_)
    · exact fun _ => y1
    clear hK K' hHeld
    try simp only [Act.put, List.setIfInBounds_toArray, List.set_cons_zero, List.set_cons_succ]
    refine wpAnyC_one (i := 8) (oi := ?o16) ?hi16 (by kernel_rfl) ?step16
    case hi16 => (simp only [List.getElem?_toArray, List.getElem?_cons_zero, List.getElem?_cons_succ]; exact rfl)
    intro K' hK
    (refine step_appW (by rfl) _ _ (by rfl) (by rfl) (base := w.heap.size) (ownsRow_keep (startW w) (fun _ _ => rfl)) (by simp) (by rfl) (S1.out.below BA.out) LT.out (flatW_one _) hk1 (Nat.zero_add k) ?_; intro A5 c5 w5 o5 b5 _; have B5 := Lib.hid (BA.out.trans b5); have O5 := Lib.hid o5; have y2 := (B5.out.cell (p := ⟨g, 1, none⟩) lR).trans c1; clear o5 b5)
    refine hK.out _ _ ?_ (fun hHeld => ?_)
    · exact fun _ => y2
    clear hK K' hHeld
    try simp only [Act.put, List.setIfInBounds_toArray, List.set_cons_zero, List.set_cons_succ]
    have hS2 : (fun w' : World => w'.cell? ⟨g, 1, none⟩ = some (.slice A n cap)) w5 := y2
    refine wpAnyC_one (i := 16) (oi := ?o17) ?hi17 (by kernel_rfl) ?step17
    case hi17 => (simp only [List.getElem?_toArray, List.getElem?_cons_zero, List.getElem?_cons_succ]; exact rfl)
    intro K' hK
    (refine step_appW (by rfl) _ _ (by rfl) (by rfl) (base := w.heap.size) O5.out B5.out.size (by rfl) (S2.out.below B5.out) LD.out (flatW_one _) hkn hkr.out ?_; intro A6 c6 w6 o6 b6 _; have B6 := Lib.hid (B5.out.trans b6); have O6 := Lib.hid o6; have y3 : w6.frozen? ⟨g, 1, none⟩ = false := (by have := FZ.out; simp only [World.frozen?] at this ⊢; rw [B6.out.block g lR]; exact this); have y4 := (B6.out.cell (p := ⟨g, 1, none⟩) lR).trans c1; clear o6 b6)
    refine hK.out _ _ ?_ (fun hHeld => ?_)
    · exact fun _ => y4
    clear hK K' hHeld
    try simp only [Act.put, List.setIfInBounds_toArray, List.set_cons_zero, List.set_cons_succ]
    have hS3 : (fun w' : World => w'.cell? ⟨g, 1, none⟩ = some (.slice A n cap)) w6 := y4
    refine wpAnyC_one (i := 17) (oi := ?o51) ?hi51 (by kernel_rfl) ?step51
    case hi51 => (simp only [List.getElem?_toArray, List.getElem?_cons_zero, List.getElem?_cons_succ]; exact rfl)
    intro K' hK
    go_simp
    refine hK.out _ _ ?_ (fun hHeld => ?_)
    · exact fun _ => y4
    clear hK K' hHeld
    try simp only [Act.put, List.setIfInBounds_toArray, List.set_cons_zero, List.set_cons_succ]
    refine wpAnyC_one (i := 18) (oi := ?o52) ?hi52 (by kernel_rfl) ?step52
    case hi52 => (simp only [List.getElem?_toArray, List.getElem?_cons_zero, List.getElem?_cons_succ]; exact rfl)
    intro K' hK
    go_simp
    refine hK.out _ _ ?_ (fun hHeld => ?_)
    · exact fun _ => y4
    clear hK K' hHeld
    try simp only [Act.put, List.setIfInBounds_toArray, List.set_cons_zero, List.set_cons_succ]
    refine wpAnyC_one (i := 19) (oi := ?o20) ?hi20 (by kernel_rfl) ?step20
    case hi20 => (simp only [List.getElem?_toArray, List.getElem?_cons_zero, List.getElem?_cons_succ]; exact rfl)
    intro K' hK
    go_simp
    refine hK.out _ _ ?_ (fun hHeld => ?_)
    · exact fun h => (by cases h)
    clear hK K' hHeld
    try simp only [Act.put, List.setIfInBounds_toArray, List.set_cons_zero, List.set_cons_succ]
    refine wpAnyC_done (by kernel_rfl) ?_ _
    all_goals
      go_wp2
      go_ret
      have Hn := H.out.newrow (w6 := w6) (l := s.l.take k ++ s.l.drop (k + 1)) (A6 := A6) (n6 := n2) (c6 := c6) B6.out (by rw [List.length_append, List.length_take, List.length_drop, ← hkr.out, HN.out]; have := HK.out; omega) (by rw [flatW_app]; exact O6.out) OK.out LEN.out
      rw [E.out, E2.out]
      exact ⟨rfl, _, Hn.1, Hn.2, fun _ h => .inl h⟩
end Go.Proofs.Ytaieoneilljagaa
