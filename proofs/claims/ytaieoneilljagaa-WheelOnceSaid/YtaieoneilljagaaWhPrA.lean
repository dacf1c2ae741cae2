/-
  The program's wheel in memory, and its calls but To.
-/
import Derived.Test.YtaieoneilljagaaWhMapW
import Derived.Test.YtaieoneilljagaaWhDues
import Derived.Deep.RegionHeld3
import Derived.Deep.Cut
import Derived.Deep.DrawnRows
namespace Go.Proofs.Ytaieoneilljagaa
open Go.RowKit Go.Maps
attribute [local go_sem ↓] Go.wp_at_zero Go.wp_at_succ
set_option maxRecDepth 20000
/-- The program's wheel at block g, its map at block m, is in state s. -/
structure PM (w : World) (g m : Nat) (s : Wh.S) : Prop where
  obj : w.heap[g]? = some (.cells #[.int .i64 s.now, .map (some m)] 60 (0, 0))
  map : TMap w m s.l
theorem PM.ltg {w : World} {g m : Nat} {s : Wh.S} (h : PM w g m s) : g < w.heap.size := lt_of_block h.obj
theorem PM.ltm {w : World} {g m : Nat} {s : Wh.S} (h : PM w g m s) : m < w.heap.size := h.map.lt
theorem TMap.ne {w : World} {m : Nat} {l : List Wh.T} (h : TMap w m l) {g : Nat} {cs : Array Value} {t : TypeId} {fz : Nat × Nat} (hg : w.heap[g]? = some (.cells cs t fz)) : g ≠ m := by
  rintro rfl
  obtain ⟨D, ⟨es, clock, hb, _⟩, _⟩ := h
  rw [hg] at hb; cases hb
theorem PM.ne {w : World} {g m : Nat} {s : Wh.S} (h : PM w g m s) : g ≠ m := h.map.ne h.obj
theorem PM.keep {w w' : World} {g m : Nat} {s : Wh.S} (h : PM w g m s) (hg : w'.heap[g]? = w.heap[g]?) (hm : w'.heap[m]? = w.heap[m]?) : PM w' g m s := ⟨hg.trans h.obj, h.map.keep hm⟩
theorem PM.grew {w w' : World} {g m : Nat} {s : Wh.S} (h : PM w g m s) (hb : Below w.heap.size w w') : PM w' g m s := h.keep (hb.block g h.ltg) (hb.block m h.ltm)
/-- The blocks of the wheel. -/
def two (g m : Nat) (i : Nat) : Prop := i = g ∨ i = m
/-- The program's wheel at block g is in state s; O are its blocks. -/
def PW (w : World) (g : Nat) (O : Nat → Prop) (s : Wh.S) : Prop := ∃ m, PM w g m s ∧ ∀ i, O i ↔ two g m i
theorem PW.keep {w w' : World} {g : Nat} {O : Nat → Prop} {s : Wh.S} (h : PW w g O s) (_ : w.heap.size ≤ w'.heap.size) (hk : ∀ i, O i → w'.heap[i]? = w.heap[i]?) : PW w' g O s := by
  obtain ⟨m, p, ho⟩ := h
  exact ⟨m, p.keep (hk g ((ho g).2 (.inl rfl))) (hk m ((ho m).2 (.inr rfl))), ho⟩
theorem PW.lt {w : World} {g : Nat} {O : Nat → Prop} {s : Wh.S} (h : PW w g O s) : ∀ i, O i → i < w.heap.size := fun i hi => by
  obtain ⟨m, p, ho⟩ := h
  rcases (ho i).1 hi with rfl | rfl
  · exact p.ltg
  · exact p.ltm
theorem PW.own {w : World} {g : Nat} {O : Nat → Prop} {s : Wh.S} (h : PW w g O s) : O g := by
  obtain ⟨m, p, ho⟩ := h
  exact (ho g).2 (.inl rfl)
theorem turned_only {w w' : World} {m : Nat} {O : Nat → Prop} (h : w.mapTurned w' m) (hm : O m) : Only O w w' := by
  obtain ⟨h1, h2, h3, h4, h5⟩ := turned_frame h
  exact ⟨h1, h2, h3, by omega, fun k _ hk => h5 k fun e => hk (e ▸ hm)⟩
/-- The map of a wheel has been turned. -/
theorem PW.turned {w w' : World} {g m : Nat} {O : Nat → Prop} {s s' : Wh.S} (h : PM w g m s) (ho : ∀ i, O i ↔ two g m i) (ht : w.mapTurned w' m) (hm : TMap w' m s'.l) (hn : s'.now = s.now) : PW w' g O s' ∧ Step O O w w' := by
  obtain ⟨h1, h2, h3, h4, h5⟩ := turned_frame ht
  refine ⟨⟨m, ⟨?_, hm⟩, ho⟩, turned_only ht ((ho m).2 (.inr rfl)), fun k hk => .inl hk⟩
  rw [h5 g h.ne, hn]
  exact h.obj
theorem Wh.ins_perm (x : Wh.T) (l : List Wh.T) : (Wh.ins x l).Perm (x :: l) := by
  unfold Wh.ins
  have h := List.takeWhile_append_dropWhile (p := fun a => Wh.less a x) (l := l)
  refine List.perm_middle.trans ?_
  rw [h]
set_option maxHeartbeats 1000000 in
theorem wheelNew_any (w : World) : Calls Try.prog 7 #[] w fun e w' => ∃ g O, e = .returned (.pointer (some ⟨g, 0, none⟩)) ∧ PW w' g O Wh.s0 ∧ (∀ i, O i → w.heap.size ≤ i) ∧ Below w.heap.size w w' := by
  have hmm := @run_makeMap Try.prog
  go_enter Try.func7, Try.ntmps7
  go_wp2
  go_ret
  refine ⟨_, two (w.heap.size + 1) w.heap.size, rfl, ⟨w.heap.size, ⟨?_, ?_⟩, fun _ => Iff.rfl⟩, ?_, ?_⟩
  · have e : w.heap.size + 1 = (w.alloc (.map #[] 0)).heap.size := by simp
    rw [e]; exact heap_alloc_new _ _
  · exact TMap.keep (TMap.made w) (Below.heap_alloc _ _ _ (by simp))
  · rintro i (rfl | rfl) <;> omega
  · exact ((Below.refl _ _).alloc (Nat.le_refl _) _).alloc (by simp) _
theorem obQ {w : World} {g : Nat} {x y : Value} {t : TypeId} (h : w.heap[g]? = some (.cells #[x, y] t (0, 0))) (W : World) (hb : W.heap[g]? = w.heap[g]?) : W.cell? ⟨g, 0, none⟩ = some x ∧ W.cell? ⟨g, 1, none⟩ = some y := (obW (hb.trans h)).1
set_option maxHeartbeats 1000000 in
theorem wheelNow_any (g : Nat) (O : Nat → Prop) (s : Wh.S) (w : World) (h : PW w g O s) (_ : Wh.Inv s) :
    Calls Try.prog 20 #[.pointer (some ⟨g, 0, none⟩)] w fun e w' => e = .returned (.int .i64 s.now) ∧ Hid (Below w.heap.size w w') := by
  obtain ⟨m, p, ho⟩ := h
  obtain ⟨⟨c0, c1⟩, -⟩ := obW p.obj
  clear p ho
  go_enter Try.func20, Try.ntmps20
  go_wp2
  go_ret
  exact ⟨rfl, Lib.hid (Below.refl _ _)⟩
set_option maxHeartbeats 1000000 in
theorem wheelLen_any (g : Nat) (O : Nat → Prop) (s : Wh.S) (w : World) (h : PW w g O s) (_ : Wh.Inv s) :
    Calls Try.prog 13 #[.pointer (some ⟨g, 0, none⟩)] w fun e w' => e = .returned (.int .i64 (s.l.length : Int)) ∧ Hid (Below w.heap.size w w') := by
  obtain ⟨m, p, ho⟩ := h
  obtain ⟨⟨c0, c1⟩, -⟩ := obW p.obj
  have HL := fun ty => p.map.len ty
  clear p ho
  go_enter Try.func13, Try.ntmps13
  go_wp2
  go_ret
  exact ⟨rfl, Lib.hid (Below.refl _ _)⟩
theorem Wh.atV_in (s : Wh.S) (run task : Int) : Wh.atV s run task = Wh.inL s.l run task := rfl
theorem cell_new {w : World} {g o : Nat} {v : Value} (ob : Obj) (h : w.cell? ⟨g, o, none⟩ = some v) : (w.alloc ob).cell? ⟨g, o, none⟩ = some v := (World.cell?_of_block (w := w) (Below.heap_alloc _ _ _ (by
  rcases Nat.lt_or_ge g w.heap.size with h1 | h1
  · exact h1
  · simp [World.cell?, Array.getElem?_eq_none h1] at h))).trans h
set_option maxHeartbeats 2000000 in
theorem wheelAt_any (g : Nat) (O : Nat → Prop) (s : Wh.S) (run task : Int) (w : World) (h : PW w g O s) (_ : Wh.Inv s) (h1 : is64 run) (h2 : is64 task) :
    Calls Try.prog 11 #[.pointer (some ⟨g, 0, none⟩), .agg #[.int .i64 run, .int .i64 task]] w fun e w' => e = .returned (.tuple #[.int .i64 ((Wh.atV s run task).getD 0), .bool (Wh.atV s run task).isSome]) ∧ Hid (Below w.heap.size w w') := by
  obtain ⟨m, p, ho⟩ := h
  rw [Wh.atV_in]
  generalize hw1 : w.alloc (Obj.cells #[Value.int IntKind.i64 run, Value.int IntKind.i64 task] 28) = w1
  have B1 : Below w.heap.size w w1 := hw1 ▸ (Below.refl _ _).alloc (Nat.le_refl _) _
  have p1 := p.grew B1
  obtain ⟨⟨c0, c1⟩, -⟩ := obW p1.obj
  have k0 : w1.cell? ⟨w.heap.size, 0, none⟩ = some (.int .i64 run) ∧ w1.cell? ⟨w.heap.size, 1, none⟩ = some (.int .i64 task) := by rw [← hw1]; simp
  obtain ⟨k0, k1⟩ := k0
  have L := TMap.look2 (w := w1.drew) p1.map run task h1 h2
  generalize (Wh.inL s.l run task).getD 0 = a at *
  generalize (Wh.inL s.l run task).isSome = b at *
  have HB := Lib.hid B1
  have HW := Lib.hid hw1
  clear p p1 ho B1 hw1 h1 h2
  go_enter Try.func11, Try.ntmps11
  go_upto_region 1 with (fail)
  rw [HW.out]
  go_region_held3 (fun w' => w'.cell? ⟨g, 1, none⟩ = some (.map (some m)) ∧ w'.cell? ⟨w.heap.size, 0, none⟩ = some (.int .i64 run) ∧ w'.cell? ⟨w.heap.size, 1, none⟩ = some (.int .i64 task)) (go_keep) (fail)
  go_wp2
  go_ret2
  exact ⟨rfl, Lib.hid HB.out.drew⟩
set_option maxHeartbeats 2000000 in
theorem wheelDrop_any (g : Nat) (O : Nat → Prop) (s : Wh.S) (run task : Int) (w : World) (h : PW w g O s) (_ : Wh.Inv s) (h1 : is64 run) (h2 : is64 task) :
    Calls Try.prog 9 #[.pointer (some ⟨g, 0, none⟩), .agg #[.int .i64 run, .int .i64 task]] w fun e w' => e = .returned (.bool (Wh.dropB s run task)) ∧ ∃ O2, PW w' g O2 (Wh.dropS s run task) ∧ Step O O2 w w' := by
  obtain ⟨m, p, ho⟩ := h
  generalize hw1 : w.alloc (Obj.cells #[Value.int IntKind.i64 run, Value.int IntKind.i64 task] 28) = w1
  have B1 : Below w.heap.size w w1 := hw1 ▸ (Below.refl _ _).alloc (Nat.le_refl _) _
  have p1 := p.grew B1
  obtain ⟨⟨c0, c1⟩, -⟩ := obW p1.obj
  have k0 : w1.cell? ⟨w.heap.size, 0, none⟩ = some (.int .i64 run) ∧ w1.cell? ⟨w.heap.size, 1, none⟩ = some (.int .i64 task) := by rw [← hw1]; simp
  obtain ⟨k0, k1⟩ := k0
  have L := TMap.look2 (w := w1.drew) p1.map run task h1 h2
  obtain ⟨w3, D, hm, ht⟩ := TMap.drop (w := w1.drew.drew) p1.map run task h1 h2 0
  have TC : ∀ {b o : Nat} {v : Value}, b ≠ m → w1.cell? ⟨b, o, none⟩ = some v → w3.cell? ⟨b, o, none⟩ = some v := fun hb hv => (World.cell?_of_block (w := w1) ((turned_frame ht).2.2.2.2 _ hb)).trans hv
  have km : w.heap.size ≠ m := by have := p.ltm; omega
  have e0 := TC p1.ne c1
  have e1 := TC km k0
  have e2 := TC km k1
  clear TC km
  have EB : Hid (Wh.dropB s run task = (Wh.inL s.l run task).isSome) := Lib.hid (by unfold Wh.dropB Wh.findV Wh.inL; simp)
  generalize (Wh.inL s.l run task).getD 0 = a at *
  generalize (Wh.inL s.l run task).isSome = b at *
  have PT := Lib.hid (PW.turned (O := O) (s' := Wh.dropS s run task) (show PM w1.drew.drew g m s from ⟨p1.obj, p1.map⟩) ho ht hm rfl)
  have HB := Lib.hid B1
  have HW := Lib.hid hw1
  clear p p1 ho B1 hw1 h1 h2 hm ht
  go_enter Try.func9, Try.ntmps9
  go_upto_region 1 with (fail)
  rw [HW.out]
  go_region_held3 (fun w' => w'.cell? ⟨g, 1, none⟩ = some (.map (some m)) ∧ w'.cell? ⟨w.heap.size, 0, none⟩ = some (.int .i64 run) ∧ w'.cell? ⟨w.heap.size, 1, none⟩ = some (.int .i64 task)) (go_keep) (fail)
  go_upto_region 2 with (fail)
  have d0 : w1.drew.cell? ⟨g, 1, none⟩ = some (.map (some m)) := c1
  have d1 : w1.drew.cell? ⟨w.heap.size, 0, none⟩ = some (.int .i64 run) := k0
  have d2 : w1.drew.cell? ⟨w.heap.size, 1, none⟩ = some (.int .i64 task) := k1
  have D' : (Builtin.delete_ #[58, 28] 0 #[.map (some m), .agg #[.int .i64 run, .int .i64 task]]).run Try.prog w1.drew.drew = .ok (.tuple #[]) w3 := D
  have HB2 : Hid (Below w.heap.size w w1.drew) := Lib.hid HB.out.drew
  clear L D c0 c1 k0 k1
  generalize w1.drew = w2 at *
  go_region_held3 (fun w' => w'.cell? ⟨g, 1, none⟩ = some (.map (some m)) ∧ w'.cell? ⟨w.heap.size, 0, none⟩ = some (.int .i64 run) ∧ w'.cell? ⟨w.heap.size, 1, none⟩ = some (.int .i64 task)) (go_keep) (fail)
  go_wp2
  go_ret
  exact ⟨ret_bool EB.out.symm, O, PT.out.1, PT.out.2.ahead HB2.out.drew⟩
set_option maxHeartbeats 2000000 in
theorem wheelSet_any (g : Nat) (O : Nat → Prop) (s : Wh.S) (run task at_ : Int) (w : World) (h : PW w g O s) (_ : Wh.Inv s) (hx : Wh.T.ok ⟨run, task, at_⟩) (hn : s.l.length ≤ 999999) :
    Calls Try.prog 8 #[.pointer (some ⟨g, 0, none⟩), .agg #[.int .i64 run, .int .i64 task], .int .i64 at_] w fun e w' => e = .returned (.int .i64 (Wh.setE s at_)) ∧ ∃ O2, PW w' g O2 (Wh.setS s run task at_) ∧ Step O O2 w w' := by
  obtain ⟨m, p, ho⟩ := h
  generalize hw1 : w.alloc (Obj.cells #[Value.int IntKind.i64 run, Value.int IntKind.i64 task] 28) = w1
  have B1 : Below w.heap.size w w1 := hw1 ▸ (Below.refl _ _).alloc (Nat.le_refl _) _
  have p1 := p.grew B1
  obtain ⟨⟨c0, c1⟩, -⟩ := obW p1.obj
  have k0 : w1.cell? ⟨w.heap.size, 0, none⟩ = some (.int .i64 run) ∧ w1.cell? ⟨w.heap.size, 1, none⟩ = some (.int .i64 task) := by rw [← hw1]; simp
  obtain ⟨k0, k1⟩ := k0
  have HW := Lib.hid hw1
  have HB := Lib.hid B1
  by_cases hbad : 1099511627776 < at_ ∨ at_ ≤ s.now
  · have E1 : Wh.setE s at_ = 1 := by unfold Wh.setE; rw [if_pos hbad]
    have E2 : Wh.setS s run task at_ = s := by unfold Wh.setS; rw [if_pos hbad]
    rw [E1, E2]
    have PT : Hid (PW w1 g O s ∧ Step O O w w1) := Lib.hid ⟨⟨m, p1, ho⟩, Only.of B1, fun _ hi => .inl hi⟩
    clear E1 E2 p p1 ho hw1 B1 hx hn
    by_cases h1 : 1099511627776 < at_
    · clear hbad
      go_enter Try.func8, Try.ntmps8
      go_upto_region 1 with (fail)
      rw [HW.out]
      go_wp2
      go_ret
      exact ⟨rfl, O, PT.out⟩
    · have h2 : at_ ≤ s.now := by omega
      clear hbad
      go_enter Try.func8, Try.ntmps8
      go_upto_region 1 with (fail)
      rw [HW.out]
      go_wp2
      go_ret
      exact ⟨rfl, O, PT.out⟩
  · have E1 : Wh.setE s at_ = 0 := by unfold Wh.setE; rw [if_neg hbad]
    rw [E1]
    have h1 : ¬ 1099511627776 < at_ := fun h => hbad (.inl h)
    have h2 : ¬ at_ ≤ s.now := fun h => hbad (.inr h)
    obtain ⟨w3, D, hm, ht⟩ := TMap.store (w := w1.drew) p1.map (by omega) run task at_ hx.1 hx.2.1 hx.2.2
    have hp : (Wh.setS s run task at_).l.Perm (Wh.setL run task at_ s.l) := by
      unfold Wh.setS Wh.setL
      rw [if_neg hbad]
      exact Wh.ins_perm _ _
    have hnow : (Wh.setS s run task at_).now = s.now := by unfold Wh.setS; rw [if_neg hbad]
    have PT := Lib.hid (PW.turned (O := O) (s' := Wh.setS s run task at_) (show PM w1.drew g m s from ⟨p1.obj, p1.map⟩) ho ht (hm.perm hp) hnow)
    have TC : ∀ {b o : Nat} {v : Value}, b ≠ m → w1.cell? ⟨b, o, none⟩ = some v → w3.cell? ⟨b, o, none⟩ = some v := fun hb hv => (World.cell?_of_block (w := w1) ((turned_frame ht).2.2.2.2 _ hb)).trans hv
    have km : w.heap.size ≠ m := by have := p.ltm; omega
    have e0 := TC p1.ne c1
    have e1 := TC km k0
    have e2 := TC km k1
    clear TC km E1 p p1 ho hw1 B1 hx hn hbad hp hnow hm ht
    go_enter Try.func8, Try.ntmps8
    go_upto_region 1 with (fail)
    rw [HW.out]
    go_upto_region 3 with (fail)
    go_region_held3 (fun w' => w'.cell? ⟨g, 1, none⟩ = some (.map (some m)) ∧ w'.cell? ⟨w.heap.size, 0, none⟩ = some (.int .i64 run) ∧ w'.cell? ⟨w.heap.size, 1, none⟩ = some (.int .i64 task)) (go_keep) (fail)
    go_wp2
    go_ret
    exact ⟨rfl, O, PT.out.1, PT.out.2.ahead HB.out.drew⟩
end Go.Proofs.Ytaieoneilljagaa
