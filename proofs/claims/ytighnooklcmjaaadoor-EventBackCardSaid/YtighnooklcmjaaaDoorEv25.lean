/-
  Part 25 of the texts behind the law: EvSame.
-/
import Derived.Test.YtighnooklcmjaaaDoorEv23
import Derived.Test.YtighnooklcmjaaaDoorEv24
/-
  The law EventSame, walked: two events that may be, and are unlike, are written unlike.
-/
namespace Go.Proofs.YtighnooklcmjaaaDoor
open Go.RowKit
theorem Ev.field_byte (e : Ev.E) (h : Ev.Good e) (c : UInt8) : En.Byte (Ev.field e c) := by
  have hf := h.fits
  have hs : ∀ s : ByteArray, En.Byte (En.putS s) := fun s => En.Byte.app (xs := En.leb s.size) (fun z hz => En.leb_bytes _ (by omega) z hz) (En.strB_byte s)
  unfold Ev.field
  repeat' split
  · exact En.leb_bytes _ hf.r.1
  · exact En.leb_bytes _ hf.t.1
  · exact En.leb_bytes _ hf.y.1
  · exact En.leb_bytes _ hf.n.1
  · exact hs _
  · exact hs _
  · exact hs _
theorem Ev.put_byte (e : Ev.E) (h : Ev.Good e) : En.Byte (Ev.put e) := by
  rw [Ev.put_bytes h]
  unfold Ev.bytes
  refine En.Byte.app (xs := En.leb e.kind) (fun z hz => En.leb_bytes _ (by have := h.kind; omega) z hz) fun z hz => ?_
  obtain ⟨c, _, hc⟩ := List.mem_flatMap.1 hz
  exact Ev.field_byte e h c z hc
theorem str_of_inj {xs ys : List Int} (hx : En.Byte xs) (hy : En.Byte ys) (h : strOfNums xs = strOfNums ys) : xs = ys := by
  rw [← En.strB_back hx, ← En.strB_back hy, h]
theorem str_ne {s t : ByteArray} (h : s ≠ t) : (s.toList == t.toList) = false := by
  rw [beq_eq_false_iff_ne]
  intro h2
  apply h
  rw [ByteArray.toList_eq, ByteArray.toList_eq] at h2
  obtain ⟨s⟩ := s
  obtain ⟨t⟩ := t
  exact congrArg _ (Array.toList_inj.1 h2)
/-- Texts of events are alike just if the events are. -/
theorem put_beq (a b : Ev.E) (ha : Ev.Good a) (hb : Ev.Good b) : ((strOfNums (Ev.put a)).toList == (strOfNums (Ev.put b)).toList) = decide (a = b) := by
  by_cases h : a = b
  · subst h; rw [decide_eq_true rfl]; exact beq_self_eq_true _
  · rw [decide_eq_false h]
    exact str_ne fun h2 => h (Ev.put_inj ha hb (str_of_inj (Ev.put_byte a ha) (Ev.put_byte b hb) h2))
theorem OwnB.conv {w : World} {base cap : Nat} {A : Option Addr} {zs ys : List Int} (h : OwnB w base A cap zs) (hz : zs = ys) : (convert 27 9 (.slice A zs.length cap)).run Tryd.prog w = .ok (.string (strOfNums ys)) w := by
  subst hz
  exact conv_str h.bytes cap
/-- Two boxes that a call has made. -/
structure By (w : World) (p q : Ev.E) (wr : World) : Prop where
  b : Below w.heap.size w wr
  x : wr.heap[w.heap.size]? = some (.cells (evc p) 24 (0, 0))
  y : wr.heap[w.heap.size + 1]? = some (.cells (evc q) 24 (0, 0))
theorem By.more {w : World} {p q : Ev.E} {wr w' : World} (h : By w p q wr) (hb : Below wr.heap.size wr w') : By w p q w' :=
  ⟨h.b.trans (hb.mono h.b.size), (hb.block _ (lt_of_block h.x)).trans h.x, (hb.block _ (lt_of_block h.y)).trans h.y⟩
theorem By.start (w : World) (p q : Ev.E) : By w p q ((w.alloc (.cells (evc p) 24 (0, 0))).alloc (.cells (evc q) 24 (0, 0))) :=
  ⟨((Below.refl _ w).alloc (Nat.le_refl _) _).alloc (by simp) _, by rw [Below.heap_alloc _ _ _ (by simp)]; exact heap_alloc_new w _, by have := heap_alloc_new (w.alloc (.cells (evc p) 24 (0, 0))) (.cells (evc q) 24 (0, 0)); rwa [World.size_alloc] at this⟩
theorem By.drew {w : World} {p q : Ev.E} {wr : World} (h : By w p q wr) : By w p q wr.drew := ⟨h.b.drew, h.x, h.y⟩
theorem By.c {w wr : World} {k r t y n : Int} {na ke da : ByteArray} {k' r' t' y' n' : Int} {na' ke' da' : ByteArray} (h : By w ⟨k, r, t, y, n, na, ke, da⟩ ⟨k', r', t', y', n', na', ke', da'⟩ wr) :
    (wr.cell? ⟨w.heap.size, 0, none⟩ = some (.int .i64 k) ∧ wr.cell? ⟨w.heap.size, 1, none⟩ = some (.int .i64 r) ∧ wr.cell? ⟨w.heap.size, 2, none⟩ = some (.int .i64 t) ∧ wr.cell? ⟨w.heap.size, 3, none⟩ = some (.int .i64 y) ∧
      wr.cell? ⟨w.heap.size, 4, none⟩ = some (.int .i64 n) ∧ wr.cell? ⟨w.heap.size, 5, none⟩ = some (.string na) ∧ wr.cell? ⟨w.heap.size, 6, none⟩ = some (.string ke) ∧ wr.cell? ⟨w.heap.size, 7, none⟩ = some (.string da)) ∧
    wr.cell? ⟨w.heap.size + 1, 0, none⟩ = some (.int .i64 k') ∧ wr.cell? ⟨w.heap.size + 1, 1, none⟩ = some (.int .i64 r') ∧ wr.cell? ⟨w.heap.size + 1, 2, none⟩ = some (.int .i64 t') ∧ wr.cell? ⟨w.heap.size + 1, 3, none⟩ = some (.int .i64 y') ∧
      wr.cell? ⟨w.heap.size + 1, 4, none⟩ = some (.int .i64 n') ∧ wr.cell? ⟨w.heap.size + 1, 5, none⟩ = some (.string na') ∧ wr.cell? ⟨w.heap.size + 1, 6, none⟩ = some (.string ke') ∧ wr.cell? ⟨w.heap.size + 1, 7, none⟩ = some (.string da') :=
  ⟨ob8 h.x, ob8 h.y⟩
set_option maxRecDepth 100000 in
set_option maxHeartbeats 16000000 in
theorem same_walk (a b : Ev.E) (ha : EvIn a) (hb : EvIn b) (w : World) (hF : FactsE w) : Calls Tryd.prog 6 #[.agg (evc a), .agg (evc b)] w fun r w' => r = .returned (.bool true) ∧ Below w.heap.size w w' := by
  have FF : Hid (∀ W, Below w.heap.size w W → FactsE W) := Lib.hid fun W h => hF.on h
  clear hF
  have AW := Lib.hid awake_any
  have X0 := Lib.hid (By.start w a b)
  have GA := Lib.hid (good_p a ha)
  have GB := Lib.hid (good_p b hb)
  have PA := Lib.hid (put_p a ha)
  have PB := Lib.hid (put_p b hb)
  have EQ := Lib.hid (ev_eql a b ha hb)
  have PQ := Lib.hid (put_beq a b)
  have IA := Lib.hid (Ev.good_iff (e := a))
  have IB := Lib.hid (Ev.good_iff (e := b))
  clear ha hb
  generalize Ev.good a = ga at *
  generalize Ev.good b = gb at *
  generalize Ev.put a = pa at *
  generalize Ev.put b = pb at *
  generalize decide (a = b) = q at *
  have SQ : Hid (ga = true → gb = true → ((strOfNums pa).toList == (strOfNums pb).toList) = q) := Lib.hid fun h1 h2 => PQ.out (IA.out.1 h1) (IB.out.1 h2)
  clear PQ IA IB
  obtain ⟨sa, hsa⟩ : ∃ sa, sa = strOfNums pa := ⟨_, rfl⟩
  obtain ⟨sb, hsb⟩ : ∃ sb, sb = strOfNums pb := ⟨_, rfl⟩
  rw [← hsa, ← hsb] at SQ
  have SA := Lib.hid hsa.symm
  have SB := Lib.hid hsb.symm
  clear hsa hsb
  obtain ⟨k, r, t, y, n, na, ke, da⟩ := a
  obtain ⟨k', r', t', y', n', na', ke', da'⟩ := b
  change Calls _ _ #[.agg #[.int .i64 k, .int .i64 r, .int .i64 t, .int .i64 y, .int .i64 n, .string na, .string ke, .string da], .agg #[.int .i64 k', .int .i64 r', .int .i64 t', .int .i64 y', .int .i64 n', .string na', .string ke', .string da']] _ _
  change Hid (∀ W, FactsS W → Calls _ _ #[.agg #[.int .i64 k, .int .i64 r, .int .i64 t, .int .i64 y, .int .i64 n, .string na, .string ke, .string da]] W _) at GA
  change Hid (∀ W, FactsS W → Calls _ _ #[.agg #[.int .i64 k', .int .i64 r', .int .i64 t', .int .i64 y', .int .i64 n', .string na', .string ke', .string da']] W _) at GB
  change Hid (∀ W, FactsS W → Calls _ _ #[.agg #[.int .i64 k, .int .i64 r, .int .i64 t, .int .i64 y, .int .i64 n, .string na, .string ke, .string da]] W _) at PA
  change Hid (∀ W, FactsS W → Calls _ _ #[.agg #[.int .i64 k', .int .i64 r', .int .i64 t', .int .i64 y', .int .i64 n', .string na', .string ke', .string da']] W _) at PB
  change Hid (∀ W, (binOp .eql 24 (.agg #[.int .i64 k, .int .i64 r, .int .i64 t, .int .i64 y, .int .i64 n, .string na, .string ke, .string da]) (.agg #[.int .i64 k', .int .i64 r', .int .i64 t', .int .i64 y', .int .i64 n', .string na', .string ke', .string da'])).run Tryd.prog W = .ok (.bool q) W) at EQ
  obtain ⟨W0, hW0⟩ : ∃ W0, W0 = (w.alloc (.cells #[.int .i64 k, .int .i64 r, .int .i64 t, .int .i64 y, .int .i64 n, .string na, .string ke, .string da] 24)).alloc (.cells #[.int .i64 k', .int .i64 r', .int .i64 t', .int .i64 y', .int .i64 n', .string na', .string ke', .string da'] 24) := ⟨_, rfl⟩
  change Hid (By w _ _ ((w.alloc (.cells #[.int .i64 k, .int .i64 r, .int .i64 t, .int .i64 y, .int .i64 n, .string na, .string ke, .string da] 24)).alloc (.cells #[.int .i64 k', .int .i64 r', .int .i64 t', .int .i64 y', .int .i64 n', .string na', .string ke', .string da'] 24))) at X0
  rw [← hW0] at X0
  have HW := Lib.hid hW0
  clear hW0
  go_enter Tryd.func6, Tryd.ntmps6
  go_wp2_with fail
  rw [← HW.out]
  clear HW
  (with_reducible refine (AW.out _ (FF.out _ X0.out.b)).mono ?_); rintro e w1 ⟨rfl, b1⟩
  have X1 := Lib.hid (X0.out.more b1)
  clear X0 b1
  obtain ⟨⟨c0, c1, c2, c3, c4, c5, c6, c7⟩, c'0, c'1, c'2, c'3, c'4, c'5, c'6, c'7⟩ := X1.out.c
  go_wp2_with fail
  (with_reducible refine (GA.out _ (FF.out _ X1.out.b).s).mono ?_); rintro e w2 ⟨rfl, b2⟩
  have X2 := Lib.hid (X1.out.more b2)
  clear X1 b2 c0 c1 c2 c3 c4 c5 c6 c7 c'0 c'1 c'2 c'3 c'4 c'5 c'6 c'7
  obtain ⟨⟨c0, c1, c2, c3, c4, c5, c6, c7⟩, c'0, c'1, c'2, c'3, c'4, c'5, c'6, c'7⟩ := X2.out.c
  cases ga
  · go_wp2
    go_ret
    exact ⟨rfl, X2.out.b⟩
  go_wp2_with fail
  (with_reducible refine (GB.out _ (FF.out _ X2.out.b).s).mono ?_); rintro e w3 ⟨rfl, b3⟩
  have X3 := Lib.hid (X2.out.more b3)
  clear X2 b3 c0 c1 c2 c3 c4 c5 c6 c7 c'0 c'1 c'2 c'3 c'4 c'5 c'6 c'7
  cases gb
  · go_wp2
    go_ret
    exact ⟨rfl, X3.out.b⟩
  have sq : (sa.toList == sb.toList) = q := by have := SQ.out; simpa using this
  have eq := EQ.out
  clear SQ EQ
  go_upto_region 5 with fail
  have X := Lib.hid X3.out.drew
  clear X3
  refine wp_region_held_drew (S := fun w' => (w'.cell? ⟨w.heap.size, 0, none⟩ = some (.int .i64 k) ∧ w'.cell? ⟨w.heap.size, 1, none⟩ = some (.int .i64 r) ∧ w'.cell? ⟨w.heap.size, 2, none⟩ = some (.int .i64 t) ∧ w'.cell? ⟨w.heap.size, 3, none⟩ = some (.int .i64 y) ∧ w'.cell? ⟨w.heap.size, 4, none⟩ = some (.int .i64 n) ∧ w'.cell? ⟨w.heap.size, 5, none⟩ = some (.string na) ∧ w'.cell? ⟨w.heap.size, 6, none⟩ = some (.string ke) ∧ w'.cell? ⟨w.heap.size, 7, none⟩ = some (.string da)) ∧ w'.cell? ⟨w.heap.size + 1, 0, none⟩ = some (.int .i64 k') ∧ w'.cell? ⟨w.heap.size + 1, 1, none⟩ = some (.int .i64 r') ∧ w'.cell? ⟨w.heap.size + 1, 2, none⟩ = some (.int .i64 t') ∧ w'.cell? ⟨w.heap.size + 1, 3, none⟩ = some (.int .i64 y') ∧ w'.cell? ⟨w.heap.size + 1, 4, none⟩ = some (.int .i64 n') ∧ w'.cell? ⟨w.heap.size + 1, 5, none⟩ = some (.string na') ∧ w'.cell? ⟨w.heap.size + 1, 6, none⟩ = some (.string ke') ∧ w'.cell? ⟨w.heap.size + 1, 7, none⟩ = some (.string da')) (by kernel_rfl) ?hS1 (fun hHeld => ?_)
  case hS1 => exact X.out.c
  refine wpAnyH_take (i := 0) (oi := ?o2) (v := ?v2) ?hi2 (by kernel_rfl) (by kernel_rfl) (by kernel_rfl) ?hQ2 (Or.inl ⟨?hg2, ?hy2⟩) (by assumption) ?rest2
  case hi2 => (simp only [List.getElem?_toArray, List.getElem?_cons_zero]; exact rfl)
  case hQ2 => exact fun _ _ _ h => h
  case hg2 => rfl
  case hy2 => (intro w' hSw; (try dsimp only at hSw); go_simp; try with_reducible rfl)
  try simp only [Act.put, List.setIfInBounds_toArray, List.set_cons_zero, List.set_cons_succ]
  refine wpAnyH_take (i := 3) (oi := ?o3) (v := ?v3) ?hi3 (by kernel_rfl) (by kernel_rfl) (by kernel_rfl) ?hQ3 (Or.inl ⟨?hg3, ?hy3⟩) (by assumption) ?rest3
  case hi3 => (simp only [List.getElem?_toArray, List.getElem?_cons_zero, List.getElem?_cons_succ]; exact rfl)
  case hQ3 => exact fun _ _ _ h => h
  case hg3 => rfl
  case hy3 => (intro w' hSw; (try dsimp only at hSw); go_simp; try with_reducible rfl)
  try simp only [Act.put, List.setIfInBounds_toArray, List.set_cons_zero, List.set_cons_succ]
  refine wpAnyH_take (i := 7) (oi := ?o4) (v := ?v4) ?hi4 (by kernel_rfl) (by kernel_rfl) (by kernel_rfl) ?hQ4 (Or.inl ⟨?hg4, ?hy4⟩) (by assumption) ?rest4
  case hi4 => (simp only [List.getElem?_toArray, List.getElem?_cons_zero, List.getElem?_cons_succ]; exact rfl)
  case hQ4 => exact fun _ _ _ h => h
  case hg4 => rfl
  case hy4 => (intro w' hSw; (try dsimp only at hSw); go_simp; try with_reducible rfl)
  try simp only [Act.put, List.setIfInBounds_toArray, List.set_cons_zero, List.set_cons_succ]
  refine wpAnyH_take (i := 8) (oi := ?o5) (v := ?v5) ?hi5 (by kernel_rfl) (by kernel_rfl) (by kernel_rfl) ?hQ5 (Or.inl ⟨?hg5, ?hy5⟩) (by assumption) ?rest5
  case hi5 => (simp only [List.getElem?_toArray, List.getElem?_cons_zero, List.getElem?_cons_succ]; exact rfl)
  case hQ5 => exact fun _ _ _ h => h
  case hg5 => rfl
  case hy5 => (intro w' hSw; (try dsimp only at hSw); go_simp; try with_reducible rfl)
  try simp only [Act.put, List.setIfInBounds_toArray, List.set_cons_zero, List.set_cons_succ]
  refine wpAnyH_take (i := 9) (oi := ?o6) (v := ?v6) ?hi6 (by kernel_rfl) (by kernel_rfl) (by kernel_rfl) ?hQ6 (Or.inl ⟨?hg6, ?hy6⟩) (by assumption) ?rest6
  case hi6 => (simp only [List.getElem?_toArray, List.getElem?_cons_zero, List.getElem?_cons_succ]; exact rfl)
  case hQ6 => exact fun _ _ _ h => h
  case hg6 => rfl
  case hy6 => (intro w' hSw; (try dsimp only at hSw); go_simp; try with_reducible rfl)
  try simp only [Act.put, List.setIfInBounds_toArray, List.set_cons_zero, List.set_cons_succ]
  refine wpAnyH_ready (rs := [1]) (by kernel_rfl) (by simp) ?_
  refine AllReadyH.cons (o := ?o7) ?hi7 (fun K hK => ?_) AllReadyH.nil
  case hi7 => (simp only [List.getElem?_toArray, List.getElem?_cons_zero, List.getElem?_cons_succ]; exact rfl)
  (go_simp; go_at_call 9; (with_reducible refine (PA.out _ (FF.out _ X.out.b).s).mono ?_); rintro e w4 ⟨ys, A4, c4, hy, rfl, o4, g4⟩; try dsimp only)
  have X := Lib.hid (X.out.more g4.out.below)
  refine hK.out _ _ ?_ (fun hHeld => ?_)
  · exact X.out.c
  clear hK K
  try simp only [Act.put, List.setIfInBounds_toArray, List.set_cons_zero, List.set_cons_succ]
  refine wpAnyH_strong (S' := fun w' => ((w'.cell? ⟨w.heap.size, 0, none⟩ = some (.int .i64 k) ∧ w'.cell? ⟨w.heap.size, 1, none⟩ = some (.int .i64 r) ∧ w'.cell? ⟨w.heap.size, 2, none⟩ = some (.int .i64 t) ∧ w'.cell? ⟨w.heap.size, 3, none⟩ = some (.int .i64 y) ∧ w'.cell? ⟨w.heap.size, 4, none⟩ = some (.int .i64 n) ∧ w'.cell? ⟨w.heap.size, 5, none⟩ = some (.string na) ∧ w'.cell? ⟨w.heap.size, 6, none⟩ = some (.string ke) ∧ w'.cell? ⟨w.heap.size, 7, none⟩ = some (.string da)) ∧ w'.cell? ⟨w.heap.size + 1, 0, none⟩ = some (.int .i64 k') ∧ w'.cell? ⟨w.heap.size + 1, 1, none⟩ = some (.int .i64 r') ∧ w'.cell? ⟨w.heap.size + 1, 2, none⟩ = some (.int .i64 t') ∧ w'.cell? ⟨w.heap.size + 1, 3, none⟩ = some (.int .i64 y') ∧ w'.cell? ⟨w.heap.size + 1, 4, none⟩ = some (.int .i64 n') ∧ w'.cell? ⟨w.heap.size + 1, 5, none⟩ = some (.string na') ∧ w'.cell? ⟨w.heap.size + 1, 6, none⟩ = some (.string ke') ∧ w'.cell? ⟨w.heap.size + 1, 7, none⟩ = some (.string da')) ∧ (convert 27 9 (.slice A4 ys.length c4)).run Tryd.prog w' = .ok (.string sa) w') (fun _ h => h.1) ?_
  have hS4 := And.intro X.out.c (o4.out.conv (hy.out.trans rfl))
  rw [SA.out] at hS4
  refine wpAnyH_take (i := 2) (oi := ?o8) (v := ?v8) ?hi8 (by kernel_rfl) (by kernel_rfl) (by kernel_rfl) ?hQ8 (Or.inl ⟨?hg8, ?hy8⟩) (by assumption) ?rest8
  case hi8 => (simp only [List.getElem?_toArray, List.getElem?_cons_zero, List.getElem?_cons_succ]; exact rfl)
  case hQ8 => exact fun _ _ _ h => h
  case hg8 => rfl
  case hy8 => (intro w' hSw; (try dsimp only at hSw); go_simp; try with_reducible rfl)
  try simp only [Act.put, List.setIfInBounds_toArray, List.set_cons_zero, List.set_cons_succ]
  refine wpAnyH_ready (rs := [4]) (by kernel_rfl) (by simp) ?_
  refine AllReadyH.cons (o := ?o9) ?hi9 (fun K hK => ?_) AllReadyH.nil
  case hi9 => (simp only [List.getElem?_toArray, List.getElem?_cons_zero, List.getElem?_cons_succ]; exact rfl)
  (go_simp; go_at_call 9; (with_reducible refine (PB.out _ (FF.out _ X.out.b).s).mono ?_); rintro e w5 ⟨zs, A5, c5, hz, rfl, o5, g5⟩; try dsimp only)
  have X := Lib.hid (X.out.more g5.out.below)
  refine hK.out _ _ ?_ (fun hHeld => ?_)
  · exact ⟨X.out.c, by rw [← SA.out]; exact (o4.out.grew g5.out.below (Nat.le_refl _)).conv hy.out⟩
  clear hK K
  try simp only [Act.put, List.setIfInBounds_toArray, List.set_cons_zero, List.set_cons_succ]
  refine wpAnyH_strong (S' := fun w' => (((w'.cell? ⟨w.heap.size, 0, none⟩ = some (.int .i64 k) ∧ w'.cell? ⟨w.heap.size, 1, none⟩ = some (.int .i64 r) ∧ w'.cell? ⟨w.heap.size, 2, none⟩ = some (.int .i64 t) ∧ w'.cell? ⟨w.heap.size, 3, none⟩ = some (.int .i64 y) ∧ w'.cell? ⟨w.heap.size, 4, none⟩ = some (.int .i64 n) ∧ w'.cell? ⟨w.heap.size, 5, none⟩ = some (.string na) ∧ w'.cell? ⟨w.heap.size, 6, none⟩ = some (.string ke) ∧ w'.cell? ⟨w.heap.size, 7, none⟩ = some (.string da)) ∧ w'.cell? ⟨w.heap.size + 1, 0, none⟩ = some (.int .i64 k') ∧ w'.cell? ⟨w.heap.size + 1, 1, none⟩ = some (.int .i64 r') ∧ w'.cell? ⟨w.heap.size + 1, 2, none⟩ = some (.int .i64 t') ∧ w'.cell? ⟨w.heap.size + 1, 3, none⟩ = some (.int .i64 y') ∧ w'.cell? ⟨w.heap.size + 1, 4, none⟩ = some (.int .i64 n') ∧ w'.cell? ⟨w.heap.size + 1, 5, none⟩ = some (.string na') ∧ w'.cell? ⟨w.heap.size + 1, 6, none⟩ = some (.string ke') ∧ w'.cell? ⟨w.heap.size + 1, 7, none⟩ = some (.string da')) ∧ (convert 27 9 (.slice A4 ys.length c4)).run Tryd.prog w' = .ok (.string sa) w') ∧ (convert 27 9 (.slice A5 zs.length c5)).run Tryd.prog w' = .ok (.string sb) w') (fun _ h => h.1) ?_
  have cv5 := o5.out.conv hz.out
  rw [SB.out] at cv5
  have hS5 := And.intro hHeld cv5
  refine wpAnyH_take (i := 5) (oi := ?o10) (v := ?v10) ?hi10 (by kernel_rfl) (by kernel_rfl) (by kernel_rfl) ?hQ10 (Or.inl ⟨?hg10, ?hy10⟩) (by assumption) ?rest10
  case hi10 => (simp only [List.getElem?_toArray, List.getElem?_cons_zero, List.getElem?_cons_succ]; exact rfl)
  case hQ10 => exact fun _ _ _ h => h
  case hg10 => rfl
  case hy10 => (intro w' hSw; (try dsimp only at hSw); go_simp; try with_reducible rfl)
  try simp only [Act.put, List.setIfInBounds_toArray, List.set_cons_zero, List.set_cons_succ]
  refine wpAnyH_take (i := 6) (oi := ?o11) (v := ?v11) ?hi11 (by kernel_rfl) (by kernel_rfl) (by kernel_rfl) ?hQ11 (Or.inl ⟨?hg11, ?hy11⟩) (by assumption) ?rest11
  case hi11 => (simp only [List.getElem?_toArray, List.getElem?_cons_zero, List.getElem?_cons_succ]; exact rfl)
  case hQ11 => exact fun _ _ _ h => h
  case hg11 => rfl
  case hy11 => (intro w' hSw; (try dsimp only at hSw); go_simp; try with_reducible rfl)
  try simp only [Act.put, List.setIfInBounds_toArray, List.set_cons_zero, List.set_cons_succ]
  refine wpAnyH_take (i := 10) (oi := ?o12) (v := ?v12) ?hi12 (by kernel_rfl) (by kernel_rfl) (by kernel_rfl) ?hQ12 (Or.inl ⟨?hg12, ?hy12⟩) (by assumption) ?rest12
  case hi12 => (simp only [List.getElem?_toArray, List.getElem?_cons_zero, List.getElem?_cons_succ]; exact rfl)
  case hQ12 => exact fun _ _ _ h => h
  case hg12 => rfl
  case hy12 => (intro w' hSw; (try dsimp only at hSw); go_simp; try with_reducible rfl)
  try simp only [Act.put, List.setIfInBounds_toArray, List.set_cons_zero, List.set_cons_succ]
  refine wpAnyH_take (i := 11) (oi := ?o13) (v := ?v13) ?hi13 (by kernel_rfl) (by kernel_rfl) (by kernel_rfl) ?hQ13 (Or.inl ⟨?hg13, ?hy13⟩) (by assumption) ?rest13
  case hi13 => (simp only [List.getElem?_toArray, List.getElem?_cons_zero, List.getElem?_cons_succ]; exact rfl)
  case hQ13 => exact fun _ _ _ h => h
  case hg13 => rfl
  case hy13 => (intro w' hSw; (try dsimp only at hSw); go_simp; try with_reducible rfl)
  try simp only [Act.put, List.setIfInBounds_toArray, List.set_cons_zero, List.set_cons_succ]
  refine wpAnyH_done (by kernel_rfl) ?_ _
  go_wp2
  go_ret
  exact ⟨rfl, X.out.b⟩
end Go.Proofs.YtighnooklcmjaaaDoor
