/-
  Part 32 of the texts behind the law: TFlChange, TFlApply, TFlAll, TFlProg, TFlOne, TFlAwake, TFlTakeD, TFlTakeR.
-/
import Derived.Test.YtkbekojnmdgdgaaGreatDoorTf29
import Derived.Test.YtkbekojnmdgdgaaGreatDoorTf24
import Derived.Test.YtkbekojnmdgdgaaGreatDoorTf9
import Derived.BigQuiet
import Derived.Test.YtkbekojnmdgdgaaGreatDoorTf31
import Derived.Test.YtkbekojnmdgdgaaGreatDoorTf26
import Derived.Test.YtkbekojnmdgdgaaGreatDoorTf11
import Derived.Test.YtkbekojnmdgdgaaGreatDoorTf2
import Derived.Test.YtkbekojnmdgdgaaGreatDoorTf23
import Derived.Deep.QuietTactic
import Derived.Test.YtkbekojnmdgdgaaGreatDoorTf27
/- FlChange -/
namespace Go.Proofs.YtkbekojnmdgdgaaGreatDoor
open Go.RowKit Go.Maps
set_option maxRecDepth 20000
def Fw.actT (s : Fw.S) (e : Ev.E) : Fw.S := if Fw.actE s e = 0 then Fw.actS s e else s
set_option maxHeartbeats 4000000 in
theorem change_any {w : World} {g : Nat} {a : FAt} {s : Fw.S} (h : FPM w g a s) (hI : Fw.Inv s) (e : Ev.E) (he : EvIn e) (hr1 : 1 ≤ e.run) (hn : e.name.size ≤ 140737488355328) (hd : e.data.size ≤ 140737488355328) :
  Calls Tryz.prog 32 #[.pointer (some ⟨g, 0, none⟩), .agg (evc e)] w (ActG w g a (Fw.actE s e) (Fw.actT s e)) := by
 obtain ⟨w1, hw1⟩ : ∃ w1, w1 = w.alloc (.cells (evc e) 28) := ⟨_, rfl⟩
 have B1 : Hid (Below w.heap.size w w1) := Lib.hid (by rw [hw1]; exact (Below.refl _ _).alloc (Nat.le_refl _) _)
 have X1 : Hid (w1.heap[w.heap.size]? = some (.cells (evc e) 28 (0, 0))) := Lib.hid (by rw [hw1]; exact evBox _ _ _)
 have H := Lib.hid h
 have H1 := Lib.hid (h.on B1.out)
 obtain ⟨m, hm⟩ : ∃ m, m = s.runs.length := ⟨_, rfl⟩
 have HM := Lib.hid hm
 have hm9 : m ≤ 64 := by rw [hm]; exact h.rm
 obtain ⟨⟨c0, -, c2, -, -⟩, -⟩ := H1.out.cells
 rw [← hm] at c2
 obtain ⟨v0, v1, v2, v3, v4, v5, v6, v7⟩ := ev8 X1.out
 obtain ⟨ru, hru⟩ : ∃ ru, ru = e.run := ⟨_, rfl⟩
 have RU := Lib.hid hru
 rw [← hru] at v1 hr1
 have KI : Hid (Fw.Inv s) := Lib.hid hI
 have HE := Lib.hid (And.intro he (And.intro hn hd))
 have V : Hid (Fw.actE s e = if (m : Int) < ru then 4 else (Fw.act s.clock e (Fw.run s ru)).2) := Lib.hid (by unfold Fw.actE; rw [hm, hru])
 have VS : Hid (Fw.actT s e = if Fw.actE s e = 0 then Fw.setR s ru (Fw.act s.clock e (Fw.run s ru)).1 else s) := Lib.hid (by unfold Fw.actT Fw.actS; rw [hru])
 generalize Fw.actE s e = v at *
 generalize Fw.actT s e = s2 at *
 clear h hI he hn hd hm
 by_cases hlt : (m : Int) < ru
 ·have R : Hid (v = 4) := Lib.hid (by rw [V.out, if_pos hlt])
  have RS' : Hid (s2 = s) := Lib.hid (by rw [VS.out, if_neg (by rw [R.out]; decide)])
  clear V VS v0 v2 v3 v4 v5 v6 v7 c0 hru
  unfold evc at hw1 ⊢
  go_enter Tryz.func32, Tryz.ntmps32
  go_upto_region 1 with (fail)
  rw [← hw1]
  clear hw1
  go_quiet (fail)
  go_wp2
  go_ret
  rw [RS'.out]
  exact ActG.same H.out (below_n B1.out _) R.out.symm
 ·obtain ⟨k, rfl⟩ : ∃ k : Nat, ru = (k : Int) + 1 := ⟨(ru - 1).toNat, by omega⟩
  have hkm : k < m := by omega
  have HK : Hid (k < s.runs.length) := Lib.hid (by rw [← HM.out]; exact hkm)
  have RK : Hid (Fw.run s ((k : Int) + 1) = rAt s.runs k) := Lib.hid (by unfold Fw.run rAt; rw [show ((k : Int) + 1 - 1).toNat = k by omega]; rfl)
  have V2 : Hid (v = (Fw.act s.clock e (rAt s.runs k)).2) := Lib.hid (by rw [V.out, if_neg hlt, RK.out])
  have VT : Hid (s2 = if v = 0 then { s with runs := s.runs.modify k fun q => ((Fw.act s.clock e (rAt s.runs k)).1, q.2) } else s) := Lib.hid (by
   rw [VS.out, RK.out]
   unfold Fw.setR
   rw [show ((k : Int) + 1 - 1).toNat = k by omega])
  have RI : Hid (Rn.Inv (rAt s.runs k)) := Lib.hid (by rw [rAt_get HK.out]; exact (KI.out.rok _ (List.getElem_mem HK.out)).1.toInv)
  obtain ⟨b, hA, -, hb⟩ := H1.out.runs.shape (by rw [rsV_len]; have := HK.out; omega)
  have HA := Lib.hid hA
  have hrow := H1.out.runs
  rw [hA] at hrow c2
  obtain ⟨y0, y1, y2, y3⟩ := rsV_cells hrow HK.out
  have CK : Hid (0 ≤ s.clock ∧ s.clock ≤ Rn.tickMax) := Lib.hid ⟨KI.out.c0, by have := KI.out.c1; unfold Rn.tickMax; omega⟩
  have CC := Lib.hid (fun W (hW : Below w1.heap.size w1 W) => changed_any (a.f k) (rAt s.runs k) RI.out W a.Q ((H1.out.inner k HK.out).on hW) e HE.out.1 HE.out.2.1 HE.out.2.2 s.clock CK.out.1 CK.out.2)
  clear V VS RK RI hrow hA hru
  generalize rAt s.runs k = r at *
  generalize Fw.act s.clock e r = x at *
  obtain ⟨p, hp⟩ : ∃ p, p = a.f k := ⟨_, rfl⟩
  rw [← hp] at y0 y2 y3 CC
  clear hp
  unfold rv at CC
  generalize r.d.length = an at *
  generalize r.st = st at *
  generalize r.ts.length = tn at *
  generalize r.sg.length = sn at *
  obtain ⟨c, hc⟩ : ∃ c, c = s.clock := ⟨_, rfl⟩
  rw [← hc] at c0 CC
  clear hc
  unfold evc at hw1 CC ⊢
  go_enter Tryz.func32, Tryz.ntmps32
  go_upto_region 1 with (fail)
  rw [← hw1]
  clear hw1
  go_quiet (fail)
  go_upto_region 3 with (fail)
  generalize hw2 : w1.drewN nq = w2
  have B12 : Hid (Below w1.heap.size w1 w2) := Lib.hid (by rw [← hw2]; exact below_n (Below.refl _ _) _)
  clear hw2
  have SD : Hid (∀ W, Below w1.heap.size w1 W → W.cell? ⟨g, 0, none⟩ = some (.int .i64 c) ∧ W.cell? ⟨g, 2, none⟩ = some (.slice (some ⟨b, 0, none⟩) m a.cr) ∧ (W.cell? ⟨b, k * 4, none⟩ = some (.slice p.A an p.ca) ∧ W.cell? ⟨b, k * 4 + 1, none⟩ = some (.int .i64 st) ∧ W.cell? ⟨b, k * 4 + 2, none⟩ = some (.slice p.T tn p.ct) ∧ W.cell? ⟨b, k * 4 + 3, none⟩ = some (.slice p.S sn p.cs)) ∧
    W.cell? ⟨w.heap.size, 0, none⟩ = some (.int .i64 e.kind) ∧ W.cell? ⟨w.heap.size, 1, none⟩ = some (.int .i64 (k + 1)) ∧ W.cell? ⟨w.heap.size, 2, none⟩ = some (.int .i64 e.task) ∧ W.cell? ⟨w.heap.size, 3, none⟩ = some (.int .i64 e.try_) ∧ W.cell? ⟨w.heap.size, 4, none⟩ = some (.int .i64 e.n) ∧ W.cell? ⟨w.heap.size, 5, none⟩ = some (.string e.name) ∧ W.cell? ⟨w.heap.size, 6, none⟩ = some (.string e.key) ∧ W.cell? ⟨w.heap.size, 7, none⟩ = some (.string e.data)) := Lib.hid fun W hW => by
   have hc : ∀ {bb o : Nat} {u : Value}, w1.cell? ⟨bb, o, none⟩ = some u → W.cell? ⟨bb, o, none⟩ = some u := fun h => (hW.cell (block_lt h)).trans h
   exact ⟨hc c0, hc c2, ⟨hc y0, hc y1, hc y2, hc y3⟩, hc v0, hc v1, hc v2, hc v3, hc v4, hc v5, hc v6, hc v7⟩
  clear c0 c2 y0 y1 y2 y3 v0 v1 v2 v3 v4 v5 v6 v7
  obtain ⟨an2, han⟩ : ∃ z, z = x.1.d.length := ⟨_, rfl⟩
  obtain ⟨st2, hst⟩ : ∃ z, z = x.1.st := ⟨_, rfl⟩
  obtain ⟨tn2, htn⟩ : ∃ z, z = x.1.ts.length := ⟨_, rfl⟩
  obtain ⟨sn2, hsn⟩ : ∃ z, z = x.1.sg.length := ⟨_, rfl⟩
  obtain ⟨er, her⟩ : ∃ z, z = x.2 := ⟨_, rfl⟩
  have CU : Hid (∀ W, Below w1.heap.size w1 W → Calls Tryz.prog 62 #[.agg #[.slice p.A an p.ca, .int .i64 st, .slice p.T tn p.ct, .slice p.S sn p.cs], .agg #[.int .i64 e.kind, .int .i64 ((k : Int) + 1), .int .i64 e.task, .int .i64 e.try_, .int .i64 e.n, .string e.name, .string e.key, .string e.data], .int .i64 c] W (RunY W x.1 an2 st2 tn2 sn2 er)) := Lib.hid fun W hW => by
   have := CC.out W hW
   rw [← RU.out] at this
   exact this.mono fun _ _ h => h.of (Prod.ext rfl her.symm) han.symm hst.symm htn.symm hsn.symm
  have RR : Hid (x.1.d.length = an2 ∧ x.1.st = st2 ∧ x.1.ts.length = tn2 ∧ x.1.sg.length = sn2) := Lib.hid ⟨han.symm, hst.symm, htn.symm, hsn.symm⟩
  rw [← her] at V2
  clear CC han hst htn hsn her
  unfold RunY at CU
  have DB : Hid (Below w1.heap.size w1 w2.drew) := Lib.hid B12.out.drew
  have LX : Hid (w.heap.size < w1.heap.size) := Lib.hid (lt_of_block X1.out)
  have hk' : (k : Int) < (m : Int) := by omega
  have hkw : IntKind.i64.wrap (k : Int) = (k : Int) := IntWalk.i64_in _ (by omega)
  refine wp_region_C (fun w' => w'.cell? ⟨g, 0, none⟩ = some (.int .i64 c) ∧ w'.cell? ⟨g, 2, none⟩ = some (.slice (some ⟨b, 0, none⟩) m a.cr) ∧ (w'.cell? ⟨b, k * 4, none⟩ = some (.slice p.A an p.ca) ∧ w'.cell? ⟨b, k * 4 + 1, none⟩ = some (.int .i64 st) ∧ w'.cell? ⟨b, k * 4 + 2, none⟩ = some (.slice p.T tn p.ct) ∧ w'.cell? ⟨b, k * 4 + 3, none⟩ = some (.slice p.S sn p.cs)) ∧ w'.cell? ⟨w.heap.size, 0, none⟩ = some (.int .i64 e.kind) ∧ w'.cell? ⟨w.heap.size, 1, none⟩ = some (.int .i64 (k + 1)) ∧ w'.cell? ⟨w.heap.size, 2, none⟩ = some (.int .i64 e.task) ∧ w'.cell? ⟨w.heap.size, 3, none⟩ = some (.int .i64 e.try_) ∧ w'.cell? ⟨w.heap.size, 4, none⟩ = some (.int .i64 e.n) ∧ w'.cell? ⟨w.heap.size, 5, none⟩ = some (.string e.name) ∧ w'.cell? ⟨w.heap.size, 6, none⟩ = some (.string e.key) ∧ w'.cell? ⟨w.heap.size, 7, none⟩ = some (.string e.data)) 19 (by kernel_rfl) ?_
  have hS0 : (fun w' : World => w'.cell? ⟨g, 0, none⟩ = some (.int .i64 c) ∧ w'.cell? ⟨g, 2, none⟩ = some (.slice (some ⟨b, 0, none⟩) m a.cr) ∧ (w'.cell? ⟨b, k * 4, none⟩ = some (.slice p.A an p.ca) ∧ w'.cell? ⟨b, k * 4 + 1, none⟩ = some (.int .i64 st) ∧ w'.cell? ⟨b, k * 4 + 2, none⟩ = some (.slice p.T tn p.ct) ∧ w'.cell? ⟨b, k * 4 + 3, none⟩ = some (.slice p.S sn p.cs)) ∧ w'.cell? ⟨w.heap.size, 0, none⟩ = some (.int .i64 e.kind) ∧ w'.cell? ⟨w.heap.size, 1, none⟩ = some (.int .i64 (k + 1)) ∧ w'.cell? ⟨w.heap.size, 2, none⟩ = some (.int .i64 e.task) ∧ w'.cell? ⟨w.heap.size, 3, none⟩ = some (.int .i64 e.try_) ∧ w'.cell? ⟨w.heap.size, 4, none⟩ = some (.int .i64 e.n) ∧ w'.cell? ⟨w.heap.size, 5, none⟩ = some (.string e.name) ∧ w'.cell? ⟨w.heap.size, 6, none⟩ = some (.string e.key) ∧ w'.cell? ⟨w.heap.size, 7, none⟩ = some (.string e.data)) w2.drew := SD.out _ DB.out
  refine takP [3, 2, 1] 0 (h := ?_)
  try simp only [Act.put, List.setIfInBounds_toArray, List.set_cons_zero, List.set_cons_succ]
  refine takP [3, 2] 1 (h := ?_)
  try simp only [Act.put, List.setIfInBounds_toArray, List.set_cons_zero, List.set_cons_succ]
  refine takP [3] 2 (h := ?_)
  try simp only [Act.put, List.setIfInBounds_toArray, List.set_cons_zero, List.set_cons_succ]
  refine takC 3 (h := ?_)
  try simp only [Act.put, List.setIfInBounds_toArray, List.set_cons_zero, List.set_cons_succ]
  refine takC 4 (h := ?_)
  try simp only [Act.put, List.setIfInBounds_toArray, List.set_cons_zero, List.set_cons_succ]
  refine takC 5 (h := ?_)
  try simp only [Act.put, List.setIfInBounds_toArray, List.set_cons_zero, List.set_cons_succ]
  refine takC 6 (h := ?_)
  try simp only [Act.put, List.setIfInBounds_toArray, List.set_cons_zero, List.set_cons_succ]
  refine takC 7 (h := ?_)
  try simp only [Act.put, List.setIfInBounds_toArray, List.set_cons_zero, List.set_cons_succ]
  refine takC 8 (h := ?_)
  try simp only [Act.put, List.setIfInBounds_toArray, List.set_cons_zero, List.set_cons_succ]
  refine takC 9 (h := ?_)
  try simp only [Act.put, List.setIfInBounds_toArray, List.set_cons_zero, List.set_cons_succ]
  refine takC 10 (h := ?_)
  try simp only [Act.put, List.setIfInBounds_toArray, List.set_cons_zero, List.set_cons_succ]
  refine takC 11 (h := ?_)
  try simp only [Act.put, List.setIfInBounds_toArray, List.set_cons_zero, List.set_cons_succ]
  refine takC 12 (h := ?_)
  try simp only [Act.put, List.setIfInBounds_toArray, List.set_cons_zero, List.set_cons_succ]
  refine takC 13 (h := ?_)
  try simp only [Act.put, List.setIfInBounds_toArray, List.set_cons_zero, List.set_cons_succ]
  refine wpAnyC_two (i := 14) (j := 18) (oi := ?o1) (oj := ?p1) ?hi1 ?hj1 (by kernel_rfl) ?step1 ?more1
  case hi1 => (simp only [List.getElem?_toArray, List.getElem?_cons_zero, List.getElem?_cons_succ]; exact rfl)
  case hj1 => (simp only [List.getElem?_toArray, List.getElem?_cons_zero, List.getElem?_cons_succ]; exact rfl)
  ·skip
   intro K' hK
   (go_simp; go_at_call 62; (with_reducible refine (CU.out _ DB.out).mono ?_); rintro r5 W5 ⟨q, rfl, o5, b5⟩; have Q5 : Hid (Below w1.heap.size w1 W5) := Lib.hid (DB.out.trans (b5.out.mono DB.out.size)); try dsimp only)
   refine hK.out _ _ ?_ (fun hHeld => ?_)
   ·exact fun _ => SD.out _ Q5.out
   clear hK K' hHeld
   try simp only [Act.put, List.setIfInBounds_toArray, List.set_cons_zero, List.set_cons_succ]
   have S5 := SD.out _ Q5.out
   refine takP [16] 15 (h := ?_)
   try simp only [Act.put, List.setIfInBounds_toArray, List.set_cons_zero, List.set_cons_succ]
   refine takC 16 (h := ?_)
   try simp only [Act.put, List.setIfInBounds_toArray, List.set_cons_zero, List.set_cons_succ]
   refine takA 17 (h := ?_)
   try simp only [Act.put, List.setIfInBounds_toArray, List.set_cons_zero, List.set_cons_succ]
   refine wpAnyC_one (i := 18) (oi := ?o2) ?hi2 (by kernel_rfl) ?step2
   case hi2 => (simp only [List.getElem?_toArray, List.getElem?_cons_zero, List.getElem?_cons_succ]; exact rfl)
   intro K' hK
   go_simp
   refine hK.out _ _ ?_ (fun hHeld => ?_)
   ·exact fun _ => SD.out _ (Q5.out.alloc Q5.out.size _)
   clear hK K' hHeld
   try simp only [Act.put, List.setIfInBounds_toArray, List.set_cons_zero, List.set_cons_succ]
   obtain ⟨W6, hW6⟩ : ∃ W6, W6 = W5.alloc (.cells #[.slice none 0 0, .int .i64 0, .slice none 0 0, .slice none 0 0] 41) := ⟨_, rfl⟩
   have YZ : Hid (W6.heap[W5.heap.size]? = some (.cells #[.slice none 0 0, .int .i64 0, .slice none 0 0, .slice none 0 0] 41 (0, 0))) := Lib.hid (by rw [hW6]; exact heap_alloc_new _ _)
   have BW : Hid (Below w1.heap.size w1 W6) := Lib.hid (by rw [hW6]; exact Q5.out.alloc Q5.out.size _)
   have Z6 : Hid (W6.heap.size = W5.heap.size + 1) := Lib.hid (by rw [hW6]; simp)
   rw [← hW6]
   have OW : Hid (RunO W6 (fun i => w2.heap.size ≤ i ∧ i < W5.heap.size) q x.1) := Lib.hid (o5.out.here.on (by rw [hW6]; exact (Below.refl _ _).alloc (Nat.le_refl _) _))
   clear hW6 S5
   have YL : Hid (w1.heap.size ≤ W5.heap.size ∧ w.heap.size < w1.heap.size ∧ w1.heap.size ≤ w2.heap.size ∧ W5.heap.size < W6.heap.size) := Lib.hid ⟨Q5.out.size, LX.out, B12.out.size, lt_of_block YZ.out⟩
   have yz := obj4 YZ.out
   obtain ⟨⟨z0, z1, z2, z3⟩, f0, f1, f2, f3⟩ := yz
   refine wpAnyC_one (i := 19) (oi := ?o3) ?hi3 (by kernel_rfl) ?step3
   case hi3 => (simp only [List.getElem?_toArray, List.getElem?_cons_zero, List.getElem?_cons_succ]; exact rfl)
   intro K' hK
   go_simp
   refine hK.out _ _ ?_ (fun hHeld => ?_)
   ·exact fun h => (by cases h)
   clear hK K' hHeld
   try simp only [Act.put, List.setIfInBounds_toArray, List.set_cons_zero, List.set_cons_succ]
   clear z0 z1 z2 z3 f0 f1 f2 f3
   obtain ⟨W7, hW7⟩ : ∃ W7, W7 = S4 W6 (W5.heap.size) (.slice q.A an2 q.ca) (.int .i64 st2) (.slice q.T tn2 q.ct) (.slice q.S sn2 q.cs) := ⟨_, rfl⟩
   have Y7 : Hid (W7.heap[W5.heap.size]? = some (.cells #[.slice q.A an2 q.ca, .int .i64 st2, .slice q.T tn2 q.ct, .slice q.S sn2 q.cs] 41 (0, 0))) := Lib.hid (by rw [hW7]; exact S4.at_ YZ.out _ _ _ _)
   have K7 : Hid (∀ i, i ≠ W5.heap.size → W7.heap[i]? = W6.heap[i]?) := Lib.hid fun i hi => by rw [hW7]; exact S4.else_ _ _ _ _ _ _ hi
   have S7 : Hid (W7.heap.size = W6.heap.size) := Lib.hid (by rw [hW7]; exact S4.size_ _ _ _ _ _ _)
   have B7 : Hid (Below w1.heap.size w1 W7) := Lib.hid (by rw [hW7]; exact S4.below BW.out YL.out.1 _ _ _ _)
   have O7 : Hid (RunO W7 (fun i => w2.heap.size ≤ i ∧ i < W5.heap.size) q x.1) := Lib.hid (OW.out.keep (Nat.le_of_eq S7.out.symm) fun i hi _ => K7.out i (by have := YL.out; have := hi.1; have := hi.2; omega))
   rw [S4.lit, ← hW7]
   clear hW7
   refine wpAnyC_one (i := 20) (oi := ?o4) ?hi4 (by kernel_rfl) ?step4
   case hi4 => (simp only [List.getElem?_toArray, List.getElem?_cons_zero, List.getElem?_cons_succ]; exact rfl)
   intro K' hK
   go_simp
   refine hK.out _ _ ?_ (fun hHeld => ?_)
   ·exact fun h => (by cases h)
   clear hK K' hHeld
   try simp only [Act.put, List.setIfInBounds_toArray, List.set_cons_zero, List.set_cons_succ]
   refine wpAnyC_done (by kernel_rfl) ?_ _
   by_cases hx : er = 0
   ·subst hx
    have R : Hid (v = 0) := V2
    have RS' : Hid (s2 = { s with runs := s.runs.modify k fun q => (x.1, q.2) }) := Lib.hid (by rw [VT.out, if_pos R.out])
    have c2 := (SD.out _ B7.out).2.1
    have v1 := (SD.out _ B7.out).2.2.2.2.1
    obtain ⟨⟨z0, z1, z2, z3⟩, -⟩ := obj4 Y7.out
    have P7 := Lib.hid (H1.out.on B7.out)
    go_upto_region 6 with (fail)
    have SE : Hid (W7.drew.cell? ⟨g, 2, none⟩ = some (.slice (some ⟨b, 0, none⟩) m a.cr) ∧ W7.drew.cell? ⟨w.heap.size, 1, none⟩ = some (.int .i64 (k + 1)) ∧ W7.drew.cell? ⟨W5.heap.size, 0, none⟩ = some (.slice q.A an2 q.ca) ∧ W7.drew.cell? ⟨W5.heap.size, 1, none⟩ = some (.int .i64 st2) ∧ W7.drew.cell? ⟨W5.heap.size, 2, none⟩ = some (.slice q.T tn2 q.ct) ∧ W7.drew.cell? ⟨W5.heap.size, 3, none⟩ = some (.slice q.S sn2 q.cs)) := Lib.hid ⟨c2, v1, z0, z1, z2, z3⟩
    refine wp_region_C (fun w' => w'.cell? ⟨g, 2, none⟩ = some (.slice (some ⟨b, 0, none⟩) m a.cr) ∧ w'.cell? ⟨w.heap.size, 1, none⟩ = some (.int .i64 (k + 1)) ∧ w'.cell? ⟨W5.heap.size, 0, none⟩ = some (.slice q.A an2 q.ca) ∧ w'.cell? ⟨W5.heap.size, 1, none⟩ = some (.int .i64 st2) ∧ w'.cell? ⟨W5.heap.size, 2, none⟩ = some (.slice q.T tn2 q.ct) ∧ w'.cell? ⟨W5.heap.size, 3, none⟩ = some (.slice q.S sn2 q.cs)) 9 (by kernel_rfl) ?_
    have hS0 : (fun w' : World => w'.cell? ⟨g, 2, none⟩ = some (.slice (some ⟨b, 0, none⟩) m a.cr) ∧ w'.cell? ⟨w.heap.size, 1, none⟩ = some (.int .i64 (k + 1)) ∧ w'.cell? ⟨W5.heap.size, 0, none⟩ = some (.slice q.A an2 q.ca) ∧ w'.cell? ⟨W5.heap.size, 1, none⟩ = some (.int .i64 st2) ∧ w'.cell? ⟨W5.heap.size, 2, none⟩ = some (.slice q.T tn2 q.ct) ∧ w'.cell? ⟨W5.heap.size, 3, none⟩ = some (.slice q.S sn2 q.cs)) W7.drew := SE.out
    clear c2 v1 z0 z1 z2 z3
    refine takC 0 (h := ?_)
    try simp only [Act.put, List.setIfInBounds_toArray, List.set_cons_zero, List.set_cons_succ]
    refine takC 1 (h := ?_)
    try simp only [Act.put, List.setIfInBounds_toArray, List.set_cons_zero, List.set_cons_succ]
    refine takC 2 (h := ?_)
    try simp only [Act.put, List.setIfInBounds_toArray, List.set_cons_zero, List.set_cons_succ]
    refine takC 3 (h := ?_)
    try simp only [Act.put, List.setIfInBounds_toArray, List.set_cons_zero, List.set_cons_succ]
    refine takC 4 (h := ?_)
    try simp only [Act.put, List.setIfInBounds_toArray, List.set_cons_zero, List.set_cons_succ]
    refine takC 5 (h := ?_)
    try simp only [Act.put, List.setIfInBounds_toArray, List.set_cons_zero, List.set_cons_succ]
    refine takC 6 (h := ?_)
    try simp only [Act.put, List.setIfInBounds_toArray, List.set_cons_zero, List.set_cons_succ]
    refine takC 7 (h := ?_)
    try simp only [Act.put, List.setIfInBounds_toArray, List.set_cons_zero, List.set_cons_succ]
    have row5 := P7.out.runs
    rw [HA.out] at row5
    have ff := fun i => row5.thawed i
    have hf0 := ff (k * 4)
    have hf1 := ff (k * 4 + 1)
    have hf2 := ff (k * 4 + 2)
    have hf3 := ff (k * 4 + 3)
    obtain ⟨y0, y1, y2, y3⟩ := rsV_cells row5 HK.out
    clear ff row5
    refine wpAnyC_one (i := 8) (oi := ?o5) ?hi5 (by kernel_rfl) ?step5
    case hi5 => (simp only [List.getElem?_toArray, List.getElem?_cons_zero, List.getElem?_cons_succ]; exact rfl)
    intro K' hK
    go_simp
    refine hK.out _ _ ?_ (fun hHeld => ?_)
    ·exact fun _ => SE.out
    clear hK K' hHeld
    try simp only [Act.put, List.setIfInBounds_toArray, List.set_cons_zero, List.set_cons_succ]
    refine wpAnyC_one (i := 9) (oi := ?o6) ?hi6 (by kernel_rfl) ?step6
    case hi6 => (simp only [List.getElem?_toArray, List.getElem?_cons_zero, List.getElem?_cons_succ]; exact rfl)
    intro K' hK
    go_simp
    refine hK.out _ _ ?_ (fun hHeld => ?_)
    ·exact fun h => (by cases h)
    clear hK K' hHeld
    try simp only [Act.put, List.setIfInBounds_toArray, List.set_cons_zero, List.set_cons_succ]
    refine wpAnyC_done (by kernel_rfl) ?_ _
    clear hf0 hf1 hf2 hf3 y0 y1 y2 y3
    have ST : Hid (∃ a', FPM (RS W7.drew b k q an2 st2 tn2 sn2) g a' { s with runs := s.runs.modify k fun q => (x.1, q.2) } ∧ StepM g a a' w (RS W7.drew b k q an2 st2 tn2 sn2)) := Lib.hid (by
     have sz := B1.out.size
     obtain ⟨p6, q6⟩ := P7.out.drew.setRun HA.out HK.out (r := x.1) (p := q) (N := fun i => w2.heap.size ≤ i ∧ i < W5.heap.size) (O7.out.on (Below.refl _ _).drew) fun i hi => ⟨by have := YL.out; have := S7.out; have h2 : W7.drew.heap.size = W7.heap.size := rfl; omega, fun hm => by have := H.out.lt i (.inl hm); have := YL.out; omega⟩
     rw [RR.out.1, RR.out.2.1, RR.out.2.2.1, RR.out.2.2.2] at p6 q6
     refine ⟨_, p6, ⟨(Only.of (B1.out.trans (B7.out.drew.mono B1.out.size))).trans q6 fun i hi => .inl hi, fun i hi => .inl hi, fun i hi => ?_⟩⟩
     rcases hi with hi | hi
     ·exact .inl hi
     ·exact .inr (by have := YL.out; have := hi.1; omega))
    go_wp2
    rw [RS.lit]
    go_ret
    rw [RS'.out]
    exact ⟨by rw [R.out]; rfl, ST⟩
   ·have hx2 : (er != 0) = true := by simpa using hx
    have RS' : Hid (s2 = s) := Lib.hid (by rw [VT.out, if_neg (by rw [V2.out]; exact hx)])
    clear hx
    go_wp2
    go_ret
    rw [RS'.out]
    exact ActG.same H.out (B1.out.trans (B7.out.mono B1.out.size)) V2.out.symm
  ·skip
   intro K' hK
   go_simp
   refine hK.out _ _ ?_ (fun hHeld => ?_)
   ·exact fun _ => SD.out _ (DB.out.alloc DB.out.size _)
   clear hK K' hHeld
   try simp only [Act.put, List.setIfInBounds_toArray, List.set_cons_zero, List.set_cons_succ]
   obtain ⟨W4, hW4⟩ : ∃ W4, W4 = (w2.alloc (.cells #[.slice none 0 0, .int .i64 0, .slice none 0 0, .slice none 0 0] 41)).drew := ⟨_, rfl⟩
   have YA : Hid (W4.heap[w2.heap.size]? = some (.cells #[.slice none 0 0, .int .i64 0, .slice none 0 0, .slice none 0 0] 41 (0, 0))) := Lib.hid (by rw [hW4]; exact heap_alloc_new _ _)
   have D4 : Hid (Below w1.heap.size w1 W4) := Lib.hid (by rw [hW4]; exact (B12.out.alloc B12.out.size _).drew)
   rw [← hW4]
   clear hW4
   refine wpAnyC_one (i := 14) (oi := ?o7) ?hi7 (by kernel_rfl) ?step7
   case hi7 => (simp only [List.getElem?_toArray, List.getElem?_cons_zero, List.getElem?_cons_succ]; exact rfl)
   intro K' hK
   (go_simp; go_at_call 62; (with_reducible refine (CU.out _ D4.out).mono ?_); rintro r5 W5 ⟨q, rfl, o5, b5⟩; have Q5 : Hid (Below w1.heap.size w1 W5) := Lib.hid (D4.out.trans (b5.out.mono D4.out.size)); try dsimp only)
   refine hK.out _ _ ?_ (fun hHeld => ?_)
   ·exact fun _ => SD.out _ Q5.out
   clear hK K' hHeld
   try simp only [Act.put, List.setIfInBounds_toArray, List.set_cons_zero, List.set_cons_succ]
   have S5 := SD.out _ Q5.out
   refine takP [16] 15 (h := ?_)
   try simp only [Act.put, List.setIfInBounds_toArray, List.set_cons_zero, List.set_cons_succ]
   refine takC 16 (h := ?_)
   try simp only [Act.put, List.setIfInBounds_toArray, List.set_cons_zero, List.set_cons_succ]
   refine takA 17 (h := ?_)
   try simp only [Act.put, List.setIfInBounds_toArray, List.set_cons_zero, List.set_cons_succ]
   clear S5
   have YZ : Hid (W5.heap[w2.heap.size]? = some (.cells #[.slice none 0 0, .int .i64 0, .slice none 0 0, .slice none 0 0] 41 (0, 0))) := Lib.hid ((b5.out.block _ (lt_of_block YA.out)).trans YA.out)
   have BW := Q5
   have OW : Hid (RunO W5 (fun i => W4.heap.size ≤ i ∧ i < W5.heap.size) q x.1) := Lib.hid o5.out.here
   have YL : Hid (w1.heap.size ≤ w2.heap.size ∧ w.heap.size < w1.heap.size ∧ w1.heap.size ≤ W4.heap.size ∧ w2.heap.size < W4.heap.size) := Lib.hid ⟨B12.out.size, LX.out, D4.out.size, lt_of_block YA.out⟩
   have yz := obj4 YZ.out
   obtain ⟨⟨z0, z1, z2, z3⟩, f0, f1, f2, f3⟩ := yz
   refine wpAnyC_one (i := 19) (oi := ?o8) ?hi8 (by kernel_rfl) ?step8
   case hi8 => (simp only [List.getElem?_toArray, List.getElem?_cons_zero, List.getElem?_cons_succ]; exact rfl)
   intro K' hK
   go_simp
   refine hK.out _ _ ?_ (fun hHeld => ?_)
   ·exact fun h => (by cases h)
   clear hK K' hHeld
   try simp only [Act.put, List.setIfInBounds_toArray, List.set_cons_zero, List.set_cons_succ]
   clear z0 z1 z2 z3 f0 f1 f2 f3
   obtain ⟨W7, hW7⟩ : ∃ W7, W7 = S4 W5 (w2.heap.size) (.slice q.A an2 q.ca) (.int .i64 st2) (.slice q.T tn2 q.ct) (.slice q.S sn2 q.cs) := ⟨_, rfl⟩
   have Y7 : Hid (W7.heap[w2.heap.size]? = some (.cells #[.slice q.A an2 q.ca, .int .i64 st2, .slice q.T tn2 q.ct, .slice q.S sn2 q.cs] 41 (0, 0))) := Lib.hid (by rw [hW7]; exact S4.at_ YZ.out _ _ _ _)
   have K7 : Hid (∀ i, i ≠ w2.heap.size → W7.heap[i]? = W5.heap[i]?) := Lib.hid fun i hi => by rw [hW7]; exact S4.else_ _ _ _ _ _ _ hi
   have S7 : Hid (W7.heap.size = W5.heap.size) := Lib.hid (by rw [hW7]; exact S4.size_ _ _ _ _ _ _)
   have B7 : Hid (Below w1.heap.size w1 W7) := Lib.hid (by rw [hW7]; exact S4.below BW.out YL.out.1 _ _ _ _)
   have O7 : Hid (RunO W7 (fun i => W4.heap.size ≤ i ∧ i < W5.heap.size) q x.1) := Lib.hid (OW.out.keep (Nat.le_of_eq S7.out.symm) fun i hi _ => K7.out i (by have := YL.out; have := hi.1; have := hi.2; omega))
   rw [S4.lit, ← hW7]
   clear hW7
   refine wpAnyC_one (i := 20) (oi := ?o9) ?hi9 (by kernel_rfl) ?step9
   case hi9 => (simp only [List.getElem?_toArray, List.getElem?_cons_zero, List.getElem?_cons_succ]; exact rfl)
   intro K' hK
   go_simp
   refine hK.out _ _ ?_ (fun hHeld => ?_)
   ·exact fun h => (by cases h)
   clear hK K' hHeld
   try simp only [Act.put, List.setIfInBounds_toArray, List.set_cons_zero, List.set_cons_succ]
   refine wpAnyC_done (by kernel_rfl) ?_ _
   by_cases hx : er = 0
   ·subst hx
    have R : Hid (v = 0) := V2
    have RS' : Hid (s2 = { s with runs := s.runs.modify k fun q => (x.1, q.2) }) := Lib.hid (by rw [VT.out, if_pos R.out])
    have c2 := (SD.out _ B7.out).2.1
    have v1 := (SD.out _ B7.out).2.2.2.2.1
    obtain ⟨⟨z0, z1, z2, z3⟩, -⟩ := obj4 Y7.out
    have P7 := Lib.hid (H1.out.on B7.out)
    go_upto_region 6 with (fail)
    have SE : Hid (W7.drew.cell? ⟨g, 2, none⟩ = some (.slice (some ⟨b, 0, none⟩) m a.cr) ∧ W7.drew.cell? ⟨w.heap.size, 1, none⟩ = some (.int .i64 (k + 1)) ∧ W7.drew.cell? ⟨w2.heap.size, 0, none⟩ = some (.slice q.A an2 q.ca) ∧ W7.drew.cell? ⟨w2.heap.size, 1, none⟩ = some (.int .i64 st2) ∧ W7.drew.cell? ⟨w2.heap.size, 2, none⟩ = some (.slice q.T tn2 q.ct) ∧ W7.drew.cell? ⟨w2.heap.size, 3, none⟩ = some (.slice q.S sn2 q.cs)) := Lib.hid ⟨c2, v1, z0, z1, z2, z3⟩
    refine wp_region_C (fun w' => w'.cell? ⟨g, 2, none⟩ = some (.slice (some ⟨b, 0, none⟩) m a.cr) ∧ w'.cell? ⟨w.heap.size, 1, none⟩ = some (.int .i64 (k + 1)) ∧ w'.cell? ⟨w2.heap.size, 0, none⟩ = some (.slice q.A an2 q.ca) ∧ w'.cell? ⟨w2.heap.size, 1, none⟩ = some (.int .i64 st2) ∧ w'.cell? ⟨w2.heap.size, 2, none⟩ = some (.slice q.T tn2 q.ct) ∧ w'.cell? ⟨w2.heap.size, 3, none⟩ = some (.slice q.S sn2 q.cs)) 9 (by kernel_rfl) ?_
    have hS0 : (fun w' : World => w'.cell? ⟨g, 2, none⟩ = some (.slice (some ⟨b, 0, none⟩) m a.cr) ∧ w'.cell? ⟨w.heap.size, 1, none⟩ = some (.int .i64 (k + 1)) ∧ w'.cell? ⟨w2.heap.size, 0, none⟩ = some (.slice q.A an2 q.ca) ∧ w'.cell? ⟨w2.heap.size, 1, none⟩ = some (.int .i64 st2) ∧ w'.cell? ⟨w2.heap.size, 2, none⟩ = some (.slice q.T tn2 q.ct) ∧ w'.cell? ⟨w2.heap.size, 3, none⟩ = some (.slice q.S sn2 q.cs)) W7.drew := SE.out
    clear c2 v1 z0 z1 z2 z3
    refine takC 0 (h := ?_)
    try simp only [Act.put, List.setIfInBounds_toArray, List.set_cons_zero, List.set_cons_succ]
    refine takC 1 (h := ?_)
    try simp only [Act.put, List.setIfInBounds_toArray, List.set_cons_zero, List.set_cons_succ]
    refine takC 2 (h := ?_)
    try simp only [Act.put, List.setIfInBounds_toArray, List.set_cons_zero, List.set_cons_succ]
    refine takC 3 (h := ?_)
    try simp only [Act.put, List.setIfInBounds_toArray, List.set_cons_zero, List.set_cons_succ]
    refine takC 4 (h := ?_)
    try simp only [Act.put, List.setIfInBounds_toArray, List.set_cons_zero, List.set_cons_succ]
    refine takC 5 (h := ?_)
    try simp only [Act.put, List.setIfInBounds_toArray, List.set_cons_zero, List.set_cons_succ]
    refine takC 6 (h := ?_)
    try simp only [Act.put, List.setIfInBounds_toArray, List.set_cons_zero, List.set_cons_succ]
    refine takC 7 (h := ?_)
    try simp only [Act.put, List.setIfInBounds_toArray, List.set_cons_zero, List.set_cons_succ]
    have row5 := P7.out.runs
    rw [HA.out] at row5
    have ff := fun i => row5.thawed i
    have hf0 := ff (k * 4)
    have hf1 := ff (k * 4 + 1)
    have hf2 := ff (k * 4 + 2)
    have hf3 := ff (k * 4 + 3)
    obtain ⟨y0, y1, y2, y3⟩ := rsV_cells row5 HK.out
    clear ff row5
    refine wpAnyC_one (i := 8) (oi := ?o10) ?hi10 (by kernel_rfl) ?step10
    case hi10 => (simp only [List.getElem?_toArray, List.getElem?_cons_zero, List.getElem?_cons_succ]; exact rfl)
    intro K' hK
    go_simp
    refine hK.out _ _ ?_ (fun hHeld => ?_)
    ·exact fun _ => SE.out
    clear hK K' hHeld
    try simp only [Act.put, List.setIfInBounds_toArray, List.set_cons_zero, List.set_cons_succ]
    refine wpAnyC_one (i := 9) (oi := ?o11) ?hi11 (by kernel_rfl) ?step11
    case hi11 => (simp only [List.getElem?_toArray, List.getElem?_cons_zero, List.getElem?_cons_succ]; exact rfl)
    intro K' hK
    go_simp
    refine hK.out _ _ ?_ (fun hHeld => ?_)
    ·exact fun h => (by cases h)
    clear hK K' hHeld
    try simp only [Act.put, List.setIfInBounds_toArray, List.set_cons_zero, List.set_cons_succ]
    refine wpAnyC_done (by kernel_rfl) ?_ _
    clear hf0 hf1 hf2 hf3 y0 y1 y2 y3
    have ST : Hid (∃ a', FPM (RS W7.drew b k q an2 st2 tn2 sn2) g a' { s with runs := s.runs.modify k fun q => (x.1, q.2) } ∧ StepM g a a' w (RS W7.drew b k q an2 st2 tn2 sn2)) := Lib.hid (by
     have sz := B1.out.size
     obtain ⟨p6, q6⟩ := P7.out.drew.setRun HA.out HK.out (r := x.1) (p := q) (N := fun i => W4.heap.size ≤ i ∧ i < W5.heap.size) (O7.out.on (Below.refl _ _).drew) fun i hi => ⟨by have := YL.out; have := S7.out; have h2 : W7.drew.heap.size = W7.heap.size := rfl; omega, fun hm => by have := H.out.lt i (.inl hm); have := YL.out; omega⟩
     rw [RR.out.1, RR.out.2.1, RR.out.2.2.1, RR.out.2.2.2] at p6 q6
     refine ⟨_, p6, ⟨(Only.of (B1.out.trans (B7.out.drew.mono B1.out.size))).trans q6 fun i hi => .inl hi, fun i hi => .inl hi, fun i hi => ?_⟩⟩
     rcases hi with hi | hi
     ·exact .inl hi
     ·exact .inr (by have := YL.out; have := hi.1; omega))
    go_wp2
    rw [RS.lit]
    go_ret
    rw [RS'.out]
    exact ⟨by rw [R.out]; rfl, ST⟩
   ·have hx2 : (er != 0) = true := by simpa using hx
    have RS' : Hid (s2 = s) := Lib.hid (by rw [VT.out, if_neg (by rw [V2.out]; exact hx)])
    clear hx
    go_wp2
    go_ret
    rw [RS'.out]
    exact ActG.same H.out (B1.out.trans (B7.out.mono B1.out.size)) V2.out.symm
end Go.Proofs.YtkbekojnmdgdgaaGreatDoor
/- FlApply -/
namespace Go.Proofs.YtkbekojnmdgdgaaGreatDoor
open Go.RowKit Go.Maps
set_option maxRecDepth 20000
theorem ActG.ahead {w W w' : World} {g : Nat} {a : FAt} {x : Int} {s' : Fw.S} {r : Ending} (hb : Below w.heap.size w W) (h : ActG W g a x s' r w') : ActG w g a x s' r w' := by
 obtain ⟨h1, h2⟩ := h
 refine ⟨h1, Lib.hid ?_⟩
 obtain ⟨a', p, q⟩ := h2.out
 exact ⟨a', p, StepM.ahead hb q⟩
set_option maxHeartbeats 2000000 in
theorem apply_any {w : World} {g : Nat} {a : FAt} {s : Fw.S} (h : FPM w g a s) (hI : Fw.Inv s) (hF : FactsE w) (e : Ev.E) (he : EvIn e) :
  Calls Tryz.prog 11 #[.pointer (some ⟨g, 0, none⟩), .agg (evc e)] w (ActG w g a (Fw.err s e) (Fw.step s e)) := by
 obtain ⟨w1, hw1⟩ : ∃ w1, w1 = w.alloc (.cells (evc e) 28) := ⟨_, rfl⟩
 have B1 : Hid (Below w.heap.size w w1) := Lib.hid (by rw [hw1]; exact (Below.refl _ _).alloc (Nat.le_refl _) _)
 have X1 : Hid (w1.heap[w.heap.size]? = some (.cells (evc e) 28 (0, 0))) := Lib.hid (by rw [hw1]; exact evBox _ _ _)
 have CG := Lib.hid (good_p e he w1 (hF.on B1.out).s)
 have C1 := Lib.hid (fun W (hW : Below w.heap.size w W) => define_any (h.on hW) (hF.on hW) e he)
 have C2 := Lib.hid (fun W (hW : Below w.heap.size w W) => start_any (h.on hW) hI (hF.on hW) e he)
 have C3 := Lib.hid (fun W (hW : Below w.heap.size w W) (hg : Ev.Good e) => tick_any (h.on hW) hI e.n hg.fits.n.1 (by have := hg.fits.n.2; unfold Rn.tickMax; omega))
 have C4 := Lib.hid (fun W (hW : Below w.heap.size w W) (hg : Ev.Good e) (h1 : 1 ≤ e.run) => change_any (h.on hW) hI e he h1 (by have := hg.fits.a; omega) (by have := hg.fits.d; omega))
 have H := Lib.hid h
 have GD : Hid (Ev.good e = true → Ev.Good e) := Lib.hid Ev.good_iff.1
 have V : Hid (Fw.err s e = if Ev.good e = true then (if e.kind = 1 then Fw.defineE s e else if e.kind = 2 then Fw.startE s e else if e.kind = 6 then (if e.n ≤ s.clock then 10 else 0) else if e.kind = 9 then 0 else Fw.actE s e) else 1) := Lib.hid rfl
 have VS : Hid (Fw.step s e = if Fw.err s e = 0 then (if e.kind = 1 then Fw.defineS s e else if e.kind = 2 then Fw.startS s e else if e.kind = 6 then Fw.tickS s e.n else if e.kind = 9 then s else Fw.actS s e) else s) := Lib.hid rfl
 have R1 : Hid (∀ (hg : Ev.Good e), e.kind ≠ 1 → e.kind ≠ 2 → e.kind ≠ 6 → e.kind ≠ 9 → 1 ≤ e.run) := Lib.hid fun hG k1 k2 k6 k9 => by
  have hk := hG.kind
  have hc : e.kind = 3 ∨ e.kind = 4 ∨ e.kind = 5 ∨ e.kind = 7 ∨ e.kind = 8 := by omega
  have hw := Ev.within_in hG.run
  rcases hw with ⟨_, h1, _⟩ | ⟨h1, _⟩
  ·exact h1
  ·rcases hc with hc | hc | hc | hc | hc <;> rw [hc] at h1 <;> exact absurd h1 (by decide)
 obtain ⟨v0, v1, v2, v3, v4, v5, v6, v7⟩ := ev8 X1.out
 generalize Fw.err s e = v at *
 generalize Fw.step s e = s2 at *
 clear h hI hF he
 obtain ⟨b, hb⟩ : ∃ b, b = Ev.good e := ⟨_, rfl⟩
 rw [← hb] at CG V GD
 clear hb
 unfold evc at hw1 CG C1 C2 C4 ⊢
 go_enter Tryz.func11, Tryz.ntmps11
 go_upto_region 1 with (fail)
 rw [← hw1]
 clear hw1
 go_wp2_with fail
 refine CG.out.mono ?_; rintro r w2 ⟨rfl, b2⟩
 have B2 : Hid (Below w.heap.size w w2) := Lib.hid (B1.out.trans (b2.mono B1.out.size))
 have X2 := (b2.block _ (lt_of_block X1.out)).trans X1.out
 clear v0 v1 v2 v3 v4 v5 v6 v7 CG X1 B1 b2
 cases b with
 | false =>
  have R : Hid (v = 1) := Lib.hid (by rw [V.out, if_neg (by decide)])
  have RS' : Hid (s2 = s) := Lib.hid (by rw [VS.out, if_neg (by rw [R.out]; decide)])
  clear V VS C1 C2 C3 C4 X2
  go_wp2
  go_ret
  rw [RS'.out]
  exact ActG.same H.out B2.out R.out.symm
 | true =>
  have G := Lib.hid (GD.out rfl)
  obtain ⟨v0, v1, v2, v3, v4, v5, v6, v7⟩ := ev8 X2
  clear X2
  by_cases k1 : e.kind = 1
  ·have R : Hid (v = Fw.defineE s e) := Lib.hid (by rw [V.out, if_pos rfl, if_pos k1])
   have RS' : Hid (s2 = Fw.defS s e) := Lib.hid (by rw [VS.out, if_pos k1, R.out]; rfl)
   have CC := Lib.hid (C1.out w2 B2.out)
   rw [← R.out, ← RS'.out] at CC
   clear V VS C1 C2 C3 C4 R RS' R1
   rw [k1] at v0 CC
   clear k1
   go_wp2_with fail
   refine (CC.out).mono ?_; rintro r w3 h3
   have A3 := Lib.hid (h3.ahead B2.out)
   obtain ⟨rfl, -⟩ := h3
   go_wp2
   go_ret
   exact ⟨rfl, A3.out.2⟩
  have n1 : (e.kind == 1) = false := by simpa using k1
  by_cases k2 : e.kind = 2
  ·have R : Hid (v = Fw.startE s e) := Lib.hid (by rw [V.out, if_pos rfl, if_neg k1, if_pos k2])
   have RS' : Hid (s2 = Fw.staS s e) := Lib.hid (by rw [VS.out, if_neg k1, if_pos k2, R.out]; rfl)
   have CC := Lib.hid (C2.out w2 B2.out)
   rw [← R.out, ← RS'.out] at CC
   clear V VS C1 C2 C3 C4 R RS' R1 n1 k1
   rw [k2] at v0 CC
   clear k2
   go_wp2_with fail
   refine (CC.out).mono ?_; rintro r w3 h3
   have A3 := Lib.hid (h3.ahead B2.out)
   obtain ⟨rfl, -⟩ := h3
   go_wp2
   go_ret
   exact ⟨rfl, A3.out.2⟩
  have n2 : (e.kind == 2) = false := by simpa using k2
  by_cases k6 : e.kind = 6
  ·have R : Hid (v = if e.n ≤ s.clock then 10 else 0) := Lib.hid (by rw [V.out, if_pos rfl, if_neg k1, if_neg k2, if_pos k6])
   have RS' : Hid (s2 = if e.n ≤ s.clock then s else Fw.tickS s e.n) := Lib.hid (by
    rw [VS.out, R.out, if_neg k1, if_neg k2, if_pos k6]
    by_cases hc : e.n ≤ s.clock
    ·rw [if_pos hc, if_pos hc, if_neg (by decide)]
    ·rw [if_neg hc, if_neg hc, if_pos rfl])
   have CC := Lib.hid (C3.out w2 B2.out G.out)
   rw [← R.out, ← RS'.out] at CC
   clear V VS C1 C2 C3 C4 R RS' R1 n1 n2 k1 k2
   rw [k6] at v0
   clear k6
   go_wp2_with fail
   refine (CC.out).mono ?_; rintro r w3 h3
   have A3 := Lib.hid (h3.ahead B2.out)
   obtain ⟨rfl, -⟩ := h3
   go_wp2
   go_ret
   exact ⟨rfl, A3.out.2⟩
  have n6 : (e.kind == 6) = false := by simpa using k6
  by_cases k9 : e.kind = 9
  ·have R : Hid (v = 0) := Lib.hid (by rw [V.out, if_pos rfl, if_neg k1, if_neg k2, if_neg k6, if_pos k9])
   have RS' : Hid (s2 = s) := Lib.hid (by rw [VS.out, if_neg k1, if_neg k2, if_neg k6, if_pos k9, if_pos R.out])
   clear V VS C1 C2 C3 C4 R1 n1 n2 n6 k1 k2 k6
   rw [k9] at v0
   clear k9
   go_wp2
   go_ret
   rw [RS'.out]
   exact ActG.same H.out B2.out R.out.symm
  have n9 : (e.kind == 9) = false := by simpa using k9
  have R : Hid (v = Fw.actE s e) := Lib.hid (by rw [V.out, if_pos rfl, if_neg k1, if_neg k2, if_neg k6, if_neg k9])
  have RS' : Hid (s2 = Fw.actT s e) := Lib.hid (by rw [VS.out, if_neg k1, if_neg k2, if_neg k6, if_neg k9, R.out]; rfl)
  have CC := Lib.hid (C4.out w2 B2.out G.out (R1.out G.out k1 k2 k6 k9))
  rw [← R.out, ← RS'.out] at CC
  clear V VS C1 C2 C3 C4 R RS' R1 k1 k2 k6 k9
  go_wp2_with fail
  refine (CC.out).mono ?_; rintro r w3 h3
  have A3 := Lib.hid (h3.ahead B2.out)
  obtain ⟨rfl, -⟩ := h3
  go_wp2
  go_ret
  exact ⟨rfl, A3.out.2⟩
end Go.Proofs.YtkbekojnmdgdgaaGreatDoor
/- FlAll -/
namespace Go.Proofs.YtkbekojnmdgdgaaGreatDoor
open Go.RowKit Go.Maps
set_option maxRecDepth 20000
def MadeF (w : World) (g : Nat) (s : Fw.S) (wr : World) : Prop := ∃ a, FPM wr g a s ∧ (∀ i, mine g a i ∨ a.Q i → w.heap.size ≤ i) ∧ Below w.heap.size w wr
theorem MadeF.step {w wr W : World} {g : Nat} {s s' : Fw.S} {a a' : FAt} (_h : FPM wr g a s) (hm : ∀ i, mine g a i ∨ a.Q i → w.heap.size ≤ i) (hb : Below w.heap.size w wr) (p : FPM W g a' s') (q : StepM g a a' wr W) : MadeF w g s' W := by
 refine ⟨a', p, fun i hi => ?_, hb.trans (q.only.below hb.size fun k hk => hm k (.inl hk))⟩
 rcases hi with hi | hi
 ·rcases q.m i hi with h1 | h1
  ·exact hm i (.inl h1)
  ·exact Nat.le_trans hb.size h1
 ·rcases q.q i hi with h1 | h1
  ·exact hm i (.inr h1)
  ·exact Nat.le_trans hb.size h1
end Go.Proofs.YtkbekojnmdgdgaaGreatDoor
/- FlProg -/
namespace Go.Proofs.YtkbekojnmdgdgaaGreatDoor
open Go.RowKit
section
variable {w : World} {g : Nat} {M R : Nat → Prop} {s : Fw.S}
theorem Fw.Inv.sound (h : Fw.Inv s) : Sound s where
 bd := fun p hp => Bd.of (h.rok p hp).1.toInv.toPre
 st := fun p hp => by have h1 := (h.rok p hp).1.toInv; have h2 := h1.st0; have h3 := h1.st3; exact ⟨by omega, by omega⟩
 ki := h.ki
 c := by have h1 := h.c0; have h2 := h.c1; exact ⟨by omega, by omega⟩
 nd := fun p hp => by
  have h1 := (Df.isName_len (l := Fw.tx p.1) (h.dok p hp).1).2
  exact Nat.le_trans (Nat.le_of_eq (Array.length_toList ..).symm) h1
 no := fun p hp => by
  have h2 := Fw.look_mem (h.rok p hp).2
  have h1 := (Df.isName_len (l := Fw.tx p.2) (h.dok _ h2).1).2
  exact Nat.le_trans (Nat.le_of_eq (Array.length_toList ..).symm) h1
end
theorem flowApply_any (g : Nat) (M R : Nat → Prop) (s : Fw.S) (e : Ev.E) (w : World) (hF : FactsE w) (h : FP w g M R s) (hI : Fw.Inv s) (he : EvIn e) :
  Calls Tryz.prog 11 #[.pointer (some ⟨g, 0, none⟩), .agg (evc e)] w fun r w' => r = .returned (.int .i64 (Fw.err s e)) ∧ ∃ M2 R2, FP w' g M2 R2 (Fw.step s e) ∧ FStep M R M2 R2 w w' := by
 obtain ⟨a, h, hm, hr⟩ := h
 refine (apply_any h hI hF e he).mono ?_
 rintro r w' ⟨rfl, h2⟩
 obtain ⟨a', p, q⟩ := h2.out
 exact ⟨rfl, _, _, p.fp, q.step hm hr⟩
theorem flowLen_any (g : Nat) (M R : Nat → Prop) (s : Fw.S) (w : World) (h : FP w g M R s) :
  Calls Tryz.prog 20 #[.pointer (some ⟨g, 0, none⟩)] w fun e w' => e = .returned (.int .i64 (s.runs.length : Int)) ∧ Hid (Below w.heap.size w w') := by
 obtain ⟨a, h, -, -⟩ := h
 exact len_any h
theorem flowFirst_any (g : Nat) (M R : Nat → Prop) (s : Fw.S) (w : World) (h : FP w g M R s) (hI : Fw.Inv s) :
  Calls Tryz.prog 13 #[.pointer (some ⟨g, 0, none⟩)] w fun e w' => e = .returned (.tuple #[.int .i64 (Fw.firstV s).1, .int .i64 (Fw.firstV s).2.1, .int .i64 (Fw.firstV s).2.2.1, .bool (Fw.firstV s).2.2.2]) ∧ Hid (Below w.heap.size w w') := by
 obtain ⟨a, h, -, -⟩ := h
 exact first_any h hI
end Go.Proofs.YtkbekojnmdgdgaaGreatDoor
/- FlOne -/
namespace Go.Proofs.YtkbekojnmdgdgaaGreatDoor
open Go.RowKit
def KeptF (G : Nat → Prop) (w w' : World) : Prop := w.heap.size ≤ w'.heap.size ∧ ∀ k, G k → w'.heap[k]? = w.heap[k]?
def noF (_ : Nat) : Prop := False
structure FOne (w0 w : World) (T : Nat) (s : Fw.S) (G : Nat → Prop) : Prop where
 mem : ∃ M R, FP w T M R s ∧ (∀ k, R k → w0.heap.size ≤ k) ∧ ∀ k, G k → ¬ M k
 below : Below w0.heap.size w0 w
 inv : Fw.Inv s
 gone : ∀ k, G k → k < w.heap.size
 facts : FactsE w0
section
variable {w0 w w' : World} {T : Nat} {s s' : Fw.S} {G G' : Nat → Prop}
theorem FOne.fe (h : FOne w0 w T s G) : FactsE w := h.facts.on h.below
theorem FOne.kept (h : FOne w0 w T s G) (hb : Below w.heap.size w w') : KeptF G w w' := ⟨hb.size, fun k hk => hb.block k (h.gone k hk)⟩
theorem FOne.join (h : FOne w0 w T s G) (hb : Below w.heap.size w w') (hs : ∀ k, G' k → G k ∨ (w.heap.size ≤ k ∧ k < w'.heap.size)) : FOne w0 w' T s G' := by
 obtain ⟨M, R, p, h1, h2⟩ := h.mem
 refine ⟨⟨M, R, p.keep hb.size fun i hi => hb.block i (p.lt i hi), h1, fun k hk hm => ?_⟩, h.below.trans (hb.mono h.below.size), h.inv, fun k hk => ?_, h.facts⟩
 ·rcases hs k hk with h3 | h3
  ·exact h2 k h3 hm
  ·have := p.lt k (p.sub k hm); omega
 ·rcases hs k hk with h3 | h3
  ·exact Nat.lt_of_lt_of_le (h.gone k h3) hb.size
  ·exact h3.2
theorem FOne.on (h : FOne w0 w T s G) (hb : Below w.heap.size w w') : FOne w0 w' T s G := h.join hb fun _ h => .inl h
theorem fNew (w : World) (hF : FactsE w) : Calls Tryz.prog 10 #[] w fun e w' => ∃ T, e = .returned (.pointer (some ⟨T, 0, none⟩)) ∧ Hid (FOne w w' T Fw.new noF) ∧ Hid (Below w.heap.size w w') :=
 (flowNew_any w).mono fun _ _ ⟨g, M, R, h1, h2, h3, h4⟩ => ⟨g, h1, Lib.hid ⟨⟨M, R, h2, h3, fun _ h => h.elim⟩, h4, Fw.inv_new, fun _ h => h.elim, hF⟩, Lib.hid h4⟩
theorem fApply (h : FOne w0 w T s G) (e : Ev.E) (he : EvIn e) : Calls Tryz.prog 11 #[.pointer (some ⟨T, 0, none⟩), .agg (evc e)] w fun r w' => r = .returned (.int .i64 (Fw.err s e)) ∧ Hid (FOne w0 w' T (Fw.step s e) G) ∧ Hid (KeptF G w w') := by
 obtain ⟨M, R, p, h1, h2⟩ := h.mem
 refine (flowApply_any T M R s e w h.fe p h.inv he).mono ?_
 rintro r w' ⟨rfl, M2, R2, p2, st⟩
 have hk : KeptF G w w' := ⟨st.only.size, fun k hk => st.only.block k (h.gone k hk) (h2 k hk)⟩
 refine ⟨rfl, Lib.hid ⟨⟨M2, R2, p2, fun k hk => ?_, fun k hk hm => ?_⟩, h.below.trans (st.only.below h.below.size fun k hk => h1 k (p.sub k hk)), h.inv.step e, fun k hk => Nat.lt_of_lt_of_le (h.gone k hk) st.only.size, h.facts⟩, Lib.hid hk⟩
 ·rcases st.r k hk with h3 | h3
  ·exact h1 k h3
  ·exact Nat.le_trans h.below.size h3
 ·rcases st.m k hm with h3 | h3
  ·exact h2 k hk h3
  ·have := h.gone k hk; omega
theorem fApply' (h : FOne w0 w T s G) (e : Ev.E) (he : EvIn e) {x : Int} (hx : Fw.err s e = x) (hs : Fw.step s e = s') :
  Calls Tryz.prog 11 #[.pointer (some ⟨T, 0, none⟩), .agg (evc e)] w fun r w' => r = .returned (.int .i64 x) ∧ Hid (FOne w0 w' T s' G) ∧ Hid (KeptF G w w') := by
 subst hx hs
 exact fApply h e he
theorem fLen (h : FOne w0 w T s G) {n : Int} (hn : (s.runs.length : Int) = n) : Calls Tryz.prog 20 #[.pointer (some ⟨T, 0, none⟩)] w fun e w' => e = .returned (.int .i64 n) ∧ Hid (FOne w0 w' T s G) ∧ Hid (KeptF G w w') := by
 obtain ⟨M, R, p, h1, h2⟩ := h.mem
 subst hn
 exact (flowLen_any T M R s w p).mono fun e w' ⟨h6, h7⟩ => ⟨h6, Lib.hid (h.on h7.out), Lib.hid (h.kept h7.out)⟩
theorem fFirst (h : FOne w0 w T s G) {a b c : Int} {d : Bool} (hv : Fw.firstV s = (a, b, c, d)) : Calls Tryz.prog 13 #[.pointer (some ⟨T, 0, none⟩)] w fun e w' => e = .returned (.tuple #[.int .i64 a, .int .i64 b, .int .i64 c, .bool d]) ∧ Hid (FOne w0 w' T s G) ∧ Hid (KeptF G w w') := by
 obtain ⟨M, R, p, h1, h2⟩ := h.mem
 have := flowFirst_any T M R s w p h.inv
 rw [hv] at this
 exact this.mono fun e w' ⟨h6, h7⟩ => ⟨h6, Lib.hid (h.on h7.out), Lib.hid (h.kept h7.out)⟩
end
end Go.Proofs.YtkbekojnmdgdgaaGreatDoor
/- FlAwake -/
namespace Go.Proofs.YtkbekojnmdgdgaaGreatDoor
open Go.RowKit
set_option maxRecDepth 20000
theorem EvIn.few {k r t y n : Int} (hk : 0 ≤ k ∧ k ≤ 100) (hr : 0 ≤ r ∧ r ≤ 100) (ht : 0 ≤ t ∧ t ≤ 100) (hy : 0 ≤ y ∧ y ≤ 100) (hn : 0 ≤ n ∧ n ≤ 4398046511104) {na ke da : ByteArray} (h1 : na.size ≤ 1000) (h2 : ke.size ≤ 1000) (h3 : da.size ≤ 1000) : EvIn ⟨k, r, t, y, n, na, ke, da⟩ :=
 ⟨⟨by show _ ≤ k; omega, by show k ≤ _; omega⟩, ⟨by show _ ≤ r; omega, by show r ≤ _; omega⟩, ⟨by show _ ≤ t; omega, by show t ≤ _; omega⟩, ⟨by show _ ≤ y; omega, by show y ≤ _; omega⟩, ⟨by show _ ≤ n; omega, by show n ≤ _; omega⟩, by show na.size ≤ _; omega, by show ke.size ≤ _; omega, by show da.size ≤ _; omega⟩
theorem EvIn.lit {e : Ev.E} (h : decide (((0 ≤ e.kind ∧ e.kind ≤ 100) ∧ (0 ≤ e.run ∧ e.run ≤ 100) ∧ (0 ≤ e.task ∧ e.task ≤ 100) ∧ (0 ≤ e.try_ ∧ e.try_ ≤ 100) ∧ (0 ≤ e.n ∧ e.n ≤ 4398046511104)) ∧ e.name.size ≤ 1000 ∧ e.key.size ≤ 1000 ∧ e.data.size ≤ 1000) = true) : EvIn e := by
 have h := of_decide_eq_true h
 obtain ⟨⟨h1, h2, h3, h4, h5⟩, h6, h7, h8⟩ := h
 exact EvIn.few h1 h2 h3 h4 h5 h6 h7 h8
section
variable {w0 w : World} {T : Nat} {s s' : Fw.S} {G : Nat → Prop}
theorem fPut (h : FOne w0 w T s G) (k r t y n : Int) (na ke da : ByteArray) (he : EvIn ⟨k, r, t, y, n, na, ke, da⟩) {x : Int} (hx : Fw.err s ⟨k, r, t, y, n, na, ke, da⟩ = x) (hs : Fw.step s ⟨k, r, t, y, n, na, ke, da⟩ = s') :
  Calls Tryz.prog 11 #[.pointer (some ⟨T, 0, none⟩), .agg #[.int .i64 k, .int .i64 r, .int .i64 t, .int .i64 y, .int .i64 n, .string na, .string ke, .string da]] w fun r w' => r = .returned (.int .i64 x) ∧ Hid (FOne w0 w' T s' G) ∧ Hid (KeptF G w w') :=
 fApply' h ⟨k, r, t, y, n, na, ke, da⟩ he hx hs
end
namespace Fw
def d0 : Df.D := [⟨[97], [], 0, 10, 1, []⟩]
def a1 : S := ⟨0, [(⟨#[100]⟩, d0)], [], []⟩
def a2 : S := ⟨0, [(⟨#[100]⟩, d0)], [(⟨d0, 0, [⟨1, 0, 0, []⟩], []⟩, ⟨#[100]⟩)], []⟩
theorem ae1 : err new ⟨1, 0, 0, 0, 0, ⟨#[100]⟩, ⟨#[]⟩, ⟨#[97]⟩⟩ = 0 := by decide +kernel
theorem as1 : step new ⟨1, 0, 0, 0, 0, ⟨#[100]⟩, ⟨#[]⟩, ⟨#[97]⟩⟩ = a1 := by decide +kernel
theorem ae2 : err a1 ⟨2, 1, 0, 0, 0, ⟨#[100]⟩, ⟨#[]⟩, ⟨#[]⟩⟩ = 0 := by decide +kernel
theorem as2 : step a1 ⟨2, 1, 0, 0, 0, ⟨#[100]⟩, ⟨#[]⟩, ⟨#[]⟩⟩ = a2 := by decide +kernel
theorem af2 : firstV a2 = (1, 0, 1, true) := by decide +kernel
end Fw
set_option maxHeartbeats 4000000 in
theorem awake_any (w : World) (hF : FactsE w) : Calls Tryz.prog 9 #[] w (BoolP w true) := by
 have NW := Lib.hid (fNew w hF)
 clear hF
 go_enter Tryz.func9, Tryz.ntmps9
 go_wp2_with fail
 (with_reducible refine NW.out.mono ?_); rintro e w1 ⟨T, rfl, O1, -⟩
 go_wp2_with fail
 (with_reducible refine (fPut O1.out 1 0 0 0 0 ⟨#[100]⟩ ⟨#[]⟩ ⟨#[97]⟩ (EvIn.lit (by decide)) Fw.ae1 Fw.as1).mono ?_); rintro e w2 ⟨rfl, O2, -⟩
 go_wp2_with fail
 (with_reducible refine (fPut O2.out 2 1 0 0 0 ⟨#[100]⟩ ⟨#[]⟩ ⟨#[]⟩ (EvIn.lit (by decide)) Fw.ae2 Fw.as2).mono ?_); rintro e w3 ⟨rfl, O3, -⟩
 go_wp2_with fail
 (with_reducible refine (fFirst O3.out Fw.af2).mono ?_); rintro e w4 ⟨rfl, O4, -⟩
 go_wp2_with fail
 (with_reducible refine (fLen O4.out (n := 1) rfl).mono ?_); rintro e w5 ⟨rfl, O5, -⟩
 go_wp2
 go_ret
 exact ⟨rfl, Lib.hid O5.out.below⟩
end Go.Proofs.YtkbekojnmdgdgaaGreatDoor
/- FlTakeD -/
namespace Go.Proofs.YtkbekojnmdgdgaaGreatDoor
open Go.RowKit Go.Maps
set_option maxRecDepth 20000
def TkG (w0 : World) (g : Nat) (b : Bool) (s' : Fw.S) (e : Ending) (w' : World) : Prop := e = .returned (.bool b) ∧ Hid (∃ s2, MadeF w0 g s2 w' ∧ (b = true → s2 = s'))
theorem MadeF.on {w0 w w' : World} {g : Nat} {s : Fw.S} (h : MadeF w0 g s w) (hb : Below w.heap.size w w') : MadeF w0 g s w' := by
 obtain ⟨a, p, m, b⟩ := h
 exact ⟨a, p.on hb, m, b.trans (hb.mono b.size)⟩
theorem TkG.no {w0 w : World} {g : Nat} {s s' : Fw.S} {b v : Bool} (h : MadeF w0 g s w) (hb : b = false) (hv : v = false) : TkG w0 g v s' (.returned (.bool b)) w := by
 subst hb hv
 exact ⟨rfl, Lib.hid ⟨s, h, fun h => by cases h⟩⟩
theorem TkG.yes {w0 w : World} {g : Nat} {s s' : Fw.S} {b v : Bool} (h : MadeF w0 g s w) (hs : s = s') (hb : b = true) (hv : v = true) : TkG w0 g v s' (.returned (.bool b)) w := by
 subst hb hv
 exact ⟨rfl, Lib.hid ⟨s, h, fun _ => hs⟩⟩
def dfsZ (ns xs : List ByteArray) : List (ByteArray × Df.D) := ns.zip (xs.map fun x => (Df.parse (Fw.tx x)).1)
def ninB (n : ByteArray) (l : List ByteArray) : Bool := l.all fun x => !decide (x = n)
theorem ninB_iff {n : ByteArray} {l : List ByteArray} : ninB n l = true ↔ n ∉ l := by
 unfold ninB
 rw [List.all_eq_true]
 constructor
 ·intro h hm
  have := h n hm
  simp at this
 ·intro h x hx
  have : x ≠ n := fun e => h (e ▸ hx)
  simpa using this
def dfI (ns xs : List ByteArray) (i : Nat) : Bool := Nm.isName (Fw.tx (ns.getD i ByteArray.empty)) && (ninB (ns.getD i ByteArray.empty) (ns.take i) && shB (xs.getD i ByteArray.empty))
def dfB (ns xs : List ByteArray) : Bool := decide (ns.length ≤ 16) && (decide (ns.length = xs.length) && (List.range ns.length).all (dfI ns xs))
theorem NmsO.at_ {w : World} {O : Nat → Prop} {A : Option Addr} {ns : List ByteArray} (h : NmsO w O A ns) {i : Nat} (hi : i < ns.length) : ∃ b off, A = some ⟨b, off, none⟩ ∧ w.cell? ⟨b, off + i, none⟩ = some (.string (ns.getD i ByteArray.empty)) ∧ (ns.getD i ByteArray.empty).size ≤ 9223372036854775807 := by
 obtain ⟨b, off, e, ho, hb, hc⟩ := h.2 (by omega)
 have h1 : w.cell? ⟨b, off + i * 1 + 0, none⟩ = some (.string (ns.getD i ByteArray.empty)) := hc i hi
 rw [Nat.mul_one, Nat.add_zero] at h1
 exact ⟨b, off, e, h1, h.1 _ (by rw [getD_at hi]; exact List.getElem_mem hi)⟩
theorem dfsZ_take {ns xs : List ByteArray} (hl : ns.length = xs.length) {k : Nat} (hk : k < ns.length) : (dfsZ ns xs).take (k + 1) = (dfsZ ns xs).take k ++ [(ns.getD k ByteArray.empty, (Df.parse (Fw.tx (xs.getD k ByteArray.empty))).1)] := by
 have h1 : k < (dfsZ ns xs).length := by unfold dfsZ; rw [List.length_zip, List.length_map]; omega
 rw [List.take_succ_eq_append_getElem h1, getD_at hk, getD_at (show k < xs.length by omega)]
 congr 2
 simp [dfsZ]
theorem dfsZ_names {ns xs : List ByteArray} (hl : ns.length = xs.length) (k : Nat) : ((dfsZ ns xs).take k).map (·.1) = ns.take k := by
 unfold dfsZ
 rw [List.map_take, List.map_fst_zip (by rw [List.length_map]; omega)]
theorem found_names {l : List (ByteArray × Df.D)} {n : ByteArray} {i : Int} (h : FoundL l n i) : (0 ≤ i ↔ n ∈ l.map (·.1)) := by
 rcases h with ⟨rfl, h⟩ | ⟨k, p, rfl, h1, h2, h3⟩
 ·constructor
  ·intro h; omega
  ·intro hm
   obtain ⟨p, hp, rfl⟩ := List.mem_map.1 hm
   have := List.find?_eq_none.1 h p hp
   simp at this
 ·constructor
  ·intro _
   rw [← h2]
   exact List.mem_map_of_mem (List.mem_of_getElem? h1)
  ·intro _; omega
set_option maxHeartbeats 4000000 in
theorem takeDefs_any {w0 w : World} {g : Nat} {s0 : Fw.S} (h : MadeF w0 g s0 w) (h0 : s0.defs = []) (hF : FactsD w0) (N X : Option Addr) (ns xs : List ByteArray) (cn cx : Nat) (O : Nat → Prop) (hn : NmsO w0 O N ns) (hx : NmsO w0 O X xs) :
  Calls Tryz.prog 46 #[.pointer (some ⟨g, 0, none⟩), .slice N ns.length cn, .slice X xs.length cx] w (TkG w0 g (dfB ns xs) { s0 with defs := dfsZ ns xs }) := by
 obtain ⟨n, hn1⟩ : ∃ n, n = ns.length := ⟨_, rfl⟩
 obtain ⟨m, hm1⟩ : ∃ m, m = xs.length := ⟨_, rfl⟩
 have HN := Lib.hid hn1
 have HM := Lib.hid hm1
 have V : Hid (dfB ns xs = (decide (n ≤ 16) && (decide (n = m) && (List.range n).all (dfI ns xs)))) := Lib.hid (by rw [hn1, hm1]; rfl)
 generalize dfB ns xs = v at *
 have H := Lib.hid h
 have NS := Lib.hid hn
 have XS := Lib.hid hx
 have HF := Lib.hid hF
 have I0 : Hid (MadeF w0 g { s0 with defs := (dfsZ ns xs).take 0 } w) := Lib.hid (by rw [List.take_zero, ← h0]; exact h)
 rw [← hn1, ← hm1]
 clear h hn hx hF hn1 hm1
 by_cases h16 : ¬ (n ≤ 16)
 ·have R : Hid (v = false) := Lib.hid (by rw [V.out, decide_eq_false h16]; rfl)
  have hi : (16 : Int) < (n : Int) := by omega
  clear V h16
  go_enter Tryz.func46, Tryz.ntmps46
  go_wp2
  go_ret
  exact TkG.no H.out rfl R.out
 have n16 : n ≤ 16 := Decidable.not_not.1 h16
 have hi : ¬ (16 : Int) < (n : Int) := by omega
 by_cases hnm : ¬ (n = m)
 ·have R : Hid (v = false) := Lib.hid (by rw [V.out, decide_eq_false hnm]; simp)
  have hnm' : ((n : Int) != (m : Int)) = true := by simp; omega
  clear V h16
  go_enter Tryz.func46, Tryz.ntmps46
  go_wp2
  go_ret
  exact TkG.no H.out rfl R.out
 have hnm2 : n = m := Decidable.not_not.1 hnm
 have V2 : Hid (v = (List.range n).all (dfI ns xs)) := Lib.hid (by rw [V.out, decide_eq_true n16, decide_eq_true hnm2]; rfl)
 have LE : Hid (ns.length = xs.length) := Lib.hid (by rw [← HN.out, ← HM.out]; exact hnm2)
 clear V h16 hnm
 subst hnm2
 go_enter Tryz.func46, Tryz.ntmps46
 go_wp2_with fail
 go_loopw [21] (fun iv wr => ∃ k : Nat, k ≤ n ∧ iv = .int .i64 k ∧ Hid (∀ i, i < k → dfI ns xs i = true) ∧ Hid (MadeF w0 g { s0 with defs := (dfsZ ns xs).take k } wr)) (fun iv _ => n - (intOf iv).toNat)
 case atStart => exact ⟨0, Nat.zero_le _, rfl, Lib.hid (fun i hi => by omega), I0⟩
 case round =>
  obtain ⟨k, hk, rfl, HA, HI⟩ := hrel
  by_cases hlt : k < n
  ·have hlt' : (k : Int) < (n : Int) := by omega
   have K1 : Hid (k < ns.length) := Lib.hid (by rw [← HN.out]; exact hlt)
   have K2 : Hid (k < xs.length) := Lib.hid (by rw [← HM.out]; exact hlt)
   have BW : Hid (Below w0.heap.size w0 wr) := Lib.hid (by obtain ⟨a, p, mm, b⟩ := HI.out; exact b)
   obtain ⟨bn, on, hN, cn0, sn0⟩ := NS.out.at_ K1.out
   obtain ⟨bx, ox, hX, cx0, sx0⟩ := XS.out.at_ K2.out
   have ZT := Lib.hid (dfsZ_take LE.out K1.out)
   have ZN := Lib.hid (dfsZ_names LE.out k)
   have DI : Hid (dfI ns xs k = (Nm.isName (ns.getD k ByteArray.empty).data.toList && (ninB (ns.getD k ByteArray.empty) (ns.take k) && shB (xs.getD k ByteArray.empty)))) := Lib.hid rfl
   have FB : Hid (dfI ns xs k = false → v = false) := Lib.hid fun e => by
    rw [V2.out, List.all_eq_false]
    exact ⟨k, List.mem_range.2 hlt, by rw [e]; decide⟩
   have NXA : Hid (dfI ns xs k = true → ∀ i, i < k + 1 → dfI ns xs i = true) := Lib.hid fun e i hi => by
    by_cases h : i = k
    ·subst h; exact e
    ·exact HA.out i (by omega)
   generalize dfI ns xs k = di at *
   generalize ns.getD k ByteArray.empty = na at *
   obtain ⟨tx, htx⟩ : ∃ tx, tx = xs.getD k ByteArray.empty := ⟨_, rfl⟩
   have TXX := Lib.hid htx
   rw [← htx] at cx0 sx0 ZT DI
   clear htx
   have dn0 := (BW.out.cell (block_lt cn0)).trans cn0
   have dx0 := (BW.out.cell (block_lt cx0)).trans cx0
   have CN := Lib.hid (name_at na sn0)
   subst hN hX
   clear cn0 cx0 sn0
   have FP' := HI.out
   obtain ⟨a, p, mm, b0⟩ := FP'
   have P := Lib.hid p
   have MM := Lib.hid mm
   clear p mm b0
   have FD := Lib.hid (find_any P.out na)
   have CS := Lib.hid (fun W (hW : Below wr.heap.size wr W) => isShown_any tx sx0 W ((HF.out.on BW.out).on hW))
   cases hnm : Nm.isName na.data.toList with
   | false =>
    have R : Hid (v = false) := Lib.hid (FB.out (by rw [DI.out, hnm]; rfl))
    rw [hnm] at CN
    clear hnm
    go_wp2_with fail
    refine (CN.out _).mono ?_; rintro e w2 ⟨rfl, rfl⟩
    clear CN
    go_wp2
    go_ret
    exact TkG.no HI.out rfl R.out
   | true =>
    rw [hnm] at CN
    go_wp2_with fail
    refine (CN.out _).mono ?_; rintro e w2 ⟨rfl, rfl⟩
    clear CN
    go_wp2_with fail
    refine FD.out.mono ?_; rintro e w2 ⟨fi, rfl, hfi, b2⟩
    have FN := found_names hfi.out
    rw [ZN.out] at FN
    clear hfi FD
    by_cases hf : 0 ≤ fi
    ·have R : Hid (v = false) := Lib.hid (FB.out (by
      rw [DI.out]
      have h1 : ninB na (ns.take k) = false := by
       cases hc : ninB na (ns.take k) with
       | false => rfl
       | true => exact absurd (FN.1 hf) (ninB_iff.1 hc)
      rw [h1, Bool.false_and, Bool.and_false]))
     have IX := Lib.hid (HI.out.on b2.out)
     clear FN hnm
     go_wp2
     go_ret
     exact TkG.no IX.out rfl R.out
    ·have NIN : Hid (ninB na (ns.take k) = true) := Lib.hid (ninB_iff.2 fun h => hf (FN.2 h))
     have CU := Lib.hid (CS.out w2 b2.out)
     have ex0 := (b2.out.cell (block_lt dx0)).trans dx0
     clear FN dx0 CS
     go_wp2_with fail
     refine CU.out.mono ?_; rintro e w3 ⟨rfl, b3⟩
     have B3 : Hid (Below wr.heap.size wr w3) := Lib.hid (b2.out.trans (b3.out.mono b2.out.size))
     have fx0 := (b3.out.cell (block_lt ex0)).trans ex0
     clear CU ex0 dn0
     cases hsh : shB tx with
     | false =>
      have R : Hid (v = false) := Lib.hid (FB.out (by rw [DI.out, hsh]; simp))
      have IX := Lib.hid (HI.out.on B3.out)
      clear hsh hnm
      go_wp2
      go_ret
      exact TkG.no IX.out rfl R.out
     | true =>
      have NX := Lib.hid (NXA.out (by rw [DI.out, hnm, NIN.out, hsh]; rfl))
      have SH : Hid ((Df.parse (Fw.tx tx)).2 = 0 ∧ str (Df.showT (Df.parse (Fw.tx tx)).1) = tx) := Lib.hid (by unfold shB at hsh; exact of_decide_eq_true hsh)
      have SN : Hid (na.size ≤ 16) := Lib.hid (by have := (Df.isName_len (l := na.data.toList) hnm).2; exact Nat.le_trans (Nat.le_of_eq (Array.length_toList ..).symm) this)
      clear hsh hnm
      go_upto_region 8 with (fail)
      have P3 := Lib.hid (P.out.on B3.out)
      obtain ⟨q, hq⟩ : ∃ q, q = ((dfsZ ns xs).take k).length := ⟨_, rfl⟩
      have HQ := Lib.hid hq
      have hq2 : q ≤ k := by rw [hq, List.length_take]; exact Nat.min_le_left _ _
      have c1 : w3.cell? ⟨g, 1, none⟩ = some (.slice a.D q a.cd) := by rw [hq]; exact P3.out.cells.1.2.1
      clear hq
      have SD : Hid (∀ W : World, (W.heap[g]? = w3.heap[g]? ∧ W.heap[bx]? = w3.heap[bx]?) → W.cell? ⟨g, 1, none⟩ = some (.slice a.D q a.cd) ∧ W.cell? ⟨bx, ox + k, none⟩ = some (.string tx)) := Lib.hid fun W hW => ⟨(World.cell?_of_block (w := w3) hW.1).trans c1, (World.cell?_of_block (w := w3) hW.2).trans fx0⟩
      have GL : Hid (g < w3.heap.size ∧ bx < w3.heap.size) := Lib.hid ⟨block_lt c1, block_lt fx0⟩
      have BX : Hid (bx < w0.heap.size) := Lib.hid (by
       obtain ⟨b', off', e', ho', hb', hc'⟩ := XS.out.2 (by have := K2.out; omega)
       injection e' with e'
       injection e' with e'
       rw [e']; exact hb')
      refine wp_region_C (fun w' => w'.cell? ⟨g, 1, none⟩ = some (.slice a.D q a.cd) ∧ w'.cell? ⟨bx, ox + k, none⟩ = some (.string tx)) 15 (by kernel_rfl) ?_
      have hS0 : (fun w' : World => w'.cell? ⟨g, 1, none⟩ = some (.slice a.D q a.cd) ∧ w'.cell? ⟨bx, ox + k, none⟩ = some (.string tx)) w3.drew := ⟨c1, fx0⟩
      clear c1 fx0
      refine takC 0 (h := ?_)
      try simp only [Act.put, List.setIfInBounds_toArray, List.set_cons_zero, List.set_cons_succ]
      refine takC 1 (h := ?_)
      try simp only [Act.put, List.setIfInBounds_toArray, List.set_cons_zero, List.set_cons_succ]
      refine takC 2 (h := ?_)
      try simp only [Act.put, List.setIfInBounds_toArray, List.set_cons_zero, List.set_cons_succ]
      refine takC 3 (h := ?_)
      try simp only [Act.put, List.setIfInBounds_toArray, List.set_cons_zero, List.set_cons_succ]
      refine takC 4 (h := ?_)
      try simp only [Act.put, List.setIfInBounds_toArray, List.set_cons_zero, List.set_cons_succ]
      refine takC 5 (h := ?_)
      try simp only [Act.put, List.setIfInBounds_toArray, List.set_cons_zero, List.set_cons_succ]
      refine takC 6 (h := ?_)
      try simp only [Act.put, List.setIfInBounds_toArray, List.set_cons_zero, List.set_cons_succ]
      refine takC 7 (h := ?_)
      try simp only [Act.put, List.setIfInBounds_toArray, List.set_cons_zero, List.set_cons_succ]
      refine takC 8 (h := ?_)
      try simp only [Act.put, List.setIfInBounds_toArray, List.set_cons_zero, List.set_cons_succ]
      refine takC 9 (h := ?_)
      try simp only [Act.put, List.setIfInBounds_toArray, List.set_cons_zero, List.set_cons_succ]
      refine wpAnyC_one (i := 10) (oi := ?o1) ?hi1 (by kernel_rfl) ?step1
      case hi1 => (simp only [List.getElem?_toArray, List.getElem?_cons_zero, List.getElem?_cons_succ]; exact rfl)
      intro K' hK
      go_simp
      refine hK.out _ _ ?_ (fun hHeld => ?_)
      ·exact fun _ => SD.out _ ⟨rfl, rfl⟩
      clear hK K' hHeld
      try simp only [Act.put, List.setIfInBounds_toArray, List.set_cons_zero, List.set_cons_succ]
      refine wpAnyC_one (i := 11) (oi := ?o2) ?hi2 (by kernel_rfl) ?step2
      case hi2 => (simp only [List.getElem?_toArray, List.getElem?_cons_zero, List.getElem?_cons_succ]; exact rfl)
      intro K' hK
      go_simp
      refine hK.out _ _ ?_ (fun hHeld => ?_)
      ·exact fun _ => SD.out _ ⟨Below.heap_alloc _ _ _ GL.out.1, Below.heap_alloc _ _ _ GL.out.2⟩
      clear hK K' hHeld
      try simp only [Act.put, List.setIfInBounds_toArray, List.set_cons_zero, List.set_cons_succ]
      obtain ⟨w6, hw6⟩ : ∃ w6, w6 = (w3.alloc (.cells #[.string na, .string tx] 81)).drew := ⟨_, rfl⟩
      have L6 : Hid (w6.heap[w3.heap.size]? = some (.cells #[.string na, .string tx] 81 (0, 0))) := Lib.hid (by rw [hw6]; exact heap_alloc_new _ _)
      have Q6 : Hid (Below w3.heap.size w3 w6) := Lib.hid (by rw [hw6]; exact ((Below.refl _ _).alloc (Nat.le_refl _) _).drew)
      rw [← hw6]
      clear hw6
      have H6 := Lib.hid (P3.out.on Q6.out)
      have LM : Hid ((((dfsZ ns xs).take k).map dfV).length = q) := Lib.hid (by rw [List.length_map, HQ.out])
      have DV : Hid (dfV (na, (Df.parse (Fw.tx tx)).1) = [.string na, .string tx]) := Lib.hid (by unfold dfV; rw [SH.out.2])
      have ST0 : Hid ((Df.showT (Df.parse (Fw.tx tx)).1).length ≤ 9223372036854775807) := Lib.hid (by rw [← str_sizeF, SH.out.2]; exact sx0)
      refine wpAnyC_one (i := 12) (oi := ?o3) ?hi3 (by kernel_rfl) ?step3
      case hi3 => (simp only [List.getElem?_toArray, List.getElem?_cons_zero, List.getElem?_cons_succ]; exact rfl)
      intro K' hK
      refine step_appK' _ _ (by rfl) (vs := ((dfsZ ns xs).take k).map dfV) (us := [[.string na, .string tx]]) Tryz.underlying73 infoDf rfl (by decide) (by decide) (by rfl) LM.out.symm H6.out.defs (Nat.zero_le _) (by rfl) (by rfl) (by rw [← DV.out]; exact dfV_wide [(na, (Df.parse (Fw.tx tx)).1)]) (fun j u hu => lit_at L6.out hu) (by rw [LM.out]; show q + 1 ≤ _; omega) (r := q + 1) (by rw [LM.out]; rfl) ?_; intro A7 c7 w7 o7 g7 l7; rw [← DV.out] at o7; have p8q8 := H6.out.pushDef o7 g7 l7 (by have := SN.out; omega) ST0.out (by show ((dfsZ ns xs).take k).length < 16; rw [← HQ.out]; omega) (v := .slice A7 (q + 1) c7) (by rw [HQ.out]); have P8 := Lib.hid p8q8; have G7 : Hid (w7.heap[g]? = w6.heap[g]? ∧ w7.heap[bx]? = w6.heap[bx]?) := Lib.hid ⟨grown_keep g7 g (lt_of_block H6.out.obj) H6.out.apart.d, grown_keep g7 bx (Nat.lt_of_lt_of_le GL.out.2 Q6.out.size) fun hd => by have h1 := MM.out bx (.inl (.inr (.inl hd))); have h2 := BX.out; omega⟩; have E7 := (obF (G7.out.1.trans H6.out.obj)); have f7 := E7.2.2.1; have y7 := E7.1.2.1; have K7 : Hid (w7.heap[g]? = w3.heap[g]? ∧ w7.heap[bx]? = w3.heap[bx]?) := Lib.hid ⟨G7.out.1.trans (Q6.out.block g GL.out.1), G7.out.2.trans (Q6.out.block bx GL.out.2)⟩; clear o7 g7 l7 p8q8 E7
      refine hK.out _ _ ?_ (fun hHeld => ?_)
      ·exact fun _ => SD.out _ K7.out
      clear hK K' hHeld
      try simp only [Act.put, List.setIfInBounds_toArray, List.set_cons_zero, List.set_cons_succ]
      refine wpAnyC_one (i := 13) (oi := ?o4) ?hi4 (by kernel_rfl) ?step4
      case hi4 => (simp only [List.getElem?_toArray, List.getElem?_cons_zero, List.getElem?_cons_succ]; exact rfl)
      intro K' hK
      go_simp
      refine hK.out _ _ ?_ (fun hHeld => ?_)
      ·exact fun _ => SD.out _ K7.out
      clear hK K' hHeld
      try simp only [Act.put, List.setIfInBounds_toArray, List.set_cons_zero, List.set_cons_succ]
      refine wpAnyC_one (i := 14) (oi := ?o5) ?hi5 (by kernel_rfl) ?step5
      case hi5 => (simp only [List.getElem?_toArray, List.getElem?_cons_zero, List.getElem?_cons_succ]; exact rfl)
      intro K' hK
      go_simp
      refine hK.out _ _ ?_ (fun hHeld => ?_)
      ·exact fun _ => SD.out _ K7.out
      clear hK K' hHeld
      try simp only [Act.put, List.setIfInBounds_toArray, List.set_cons_zero, List.set_cons_succ]
      refine wpAnyC_one (i := 15) (oi := ?o6) ?hi6 (by kernel_rfl) ?step6
      case hi6 => (simp only [List.getElem?_toArray, List.getElem?_cons_zero, List.getElem?_cons_succ]; exact rfl)
      intro K' hK
      go_simp
      refine hK.out _ _ ?_ (fun hHeld => ?_)
      ·exact fun h => (by cases h)
      clear hK K' hHeld
      try simp only [Act.put, List.setIfInBounds_toArray, List.set_cons_zero, List.set_cons_succ]
      refine wpAnyC_done (by kernel_rfl) ?_ _
      have IN : Hid (MadeF w0 g { s0 with defs := (dfsZ ns xs).take (k + 1) } (w7.setCell ⟨g, 1, none⟩ (.slice A7 (q + 1) c7))) := Lib.hid (by
       obtain ⟨p8, q8⟩ := P8.out
       rw [ZT.out]
       exact MadeF.step P.out MM.out BW.out p8 (StepM.ahead (B3.out.trans (Q6.out.mono B3.out.size)) q8))
      clear y7 f7
      go_wp2
      go_roundw
      case rel => exact ⟨k + 1, by omega, by go_num, NX, IN⟩
      case measure => simp [intOf]; omega
  ·obtain rfl : k = n := by omega
   have hge : ¬ (k : Int) < (k : Int) := by omega
   have R : Hid (v = true) := Lib.hid (by rw [V2.out]; exact List.all_eq_true.2 fun i hi => HA.out i (List.mem_range.1 hi))
   go_wp2
   go_ret
   refine TkG.yes HI.out ?_ rfl R.out
   have e : (dfsZ ns xs).take k = dfsZ ns xs := List.take_of_length_le (by unfold dfsZ; rw [List.length_zip, HN.out]; omega)
   rw [e]
end Go.Proofs.YtkbekojnmdgdgaaGreatDoor
/- FlTakeR -/
namespace Go.Proofs.YtkbekojnmdgdgaaGreatDoor
open Go.RowKit Go.Maps
set_option maxRecDepth 20000
def rnI (s : Fw.S) (rs : List Rn.R) (os : List ByteArray) (i : Nat) : Bool := match Fw.lookD s (os.getD i ByteArray.empty) with
 | none => false
 | some d => irB d (rs.getD i Rn.r0)
def rnB (s : Fw.S) (rs : List Rn.R) (os : List ByteArray) : Bool := decide (rs.length ≤ 64) && (decide (rs.length = os.length) && (List.range rs.length).all (rnI s rs os))
theorem runV_bd {r : Rn.R} (h : Fw.RunV r) (hd : Df.Ok r.d) : Bd r := by
 have hf := hd.fair
 refine ⟨hf.1, fun t ht => (hf.2 t ht).1, by rw [h.len]; exact hf.1, ?_, fun x hx => ?_⟩
 ·refine Nat.le_trans (nodup_len r.sg (r.d.map (·.on)) h.nodup fun x hx => ?_) (by rw [List.length_map]; exact hf.1)
  obtain ⟨_, t, ht, e⟩ := h.sigs x hx
  exact List.mem_map.2 ⟨t, ht, e⟩
 ·obtain ⟨_, t, ht, e⟩ := h.sigs x hx
  rw [← e]
  exact (hf.2 t ht).2.2
theorem txC_wide (l : List ByteArray) : Wide 1 (l.map txC) := fun v hv => by
 obtain ⟨x, _, rfl⟩ := List.mem_map.1 hv
 exact ⟨rfl, fun u hu => by simp [txC] at hu; rcases hu with rfl; rfl⟩
theorem NmsO.srcT {w : World} {O : Nat → Prop} {A : Option Addr} {l : List ByteArray} (h : NmsO w O A l) : Src w A (l.map txC) :=
 src_of (k := 1) (by decide) (txC_wide l) fun hn => by
  rw [List.length_map] at hn
  obtain ⟨b, off, e, _, hb, hc⟩ := h.2 hn
  refine ⟨b, off, e, hb, fun i hi => ?_⟩
  rw [List.length_map] at hi
  have c0 := hc i hi
  simp only [getD_at hi] at c0
  rw [getD_map hi]
  intro j hj
  obtain rfl : j = 0 := by omega
  exact c0
theorem FPM.setRuns {w w1 w2 : World} {g : Nat} {a : FAt} {s : Fw.S} (h : FPM w g a s) (b1 : Below w.heap.size w w1) {Y n cf : Nat} {F : Option Addr} {rs : List Rn.R} {os : List ByteArray} {f : Nat → At3} (hn : n = rs.length) (hl : rs.length = os.length) (h64 : n ≤ 64)
  (o1 : OwnK w1 w.heap.size 41 4 (some ⟨Y, 0, none⟩) n (rwV rs f)) (i1 : ∀ i, i < rs.length → RunO w1 (fun b => w.heap.size ≤ b ∧ b ≠ Y) (f i) (rs.getD i Rn.r0)) (b2 : Below w1.heap.size w1 w2) (o2 : OwnK w2 w1.heap.size 9 1 F cf (os.map txC)) :
  ∃ a', FPM ((w2.setCell ⟨g, 2, none⟩ (.slice (some ⟨Y, 0, none⟩) n n)).setCell ⟨g, 3, none⟩ (.slice F n cf)) g a' { s with runs := rs.zip os } ∧ StepM g a a' w ((w2.setCell ⟨g, 2, none⟩ (.slice (some ⟨Y, 0, none⟩) n n)).setCell ⟨g, 3, none⟩ (.slice F n cf)) := by
 obtain ⟨w3, hw3⟩ : ∃ w3, w3 = (w2.setCell ⟨g, 2, none⟩ (.slice (some ⟨Y, 0, none⟩) n n)).setCell ⟨g, 3, none⟩ (.slice F n cf) := ⟨_, rfl⟩
 rw [← hw3]
 have ap := h.apart
 have hlt := h.lt
 have hg := hlt g (.inl (.inl rfl))
 have s1 := b1.size
 have s2 := b2.size
 have s3 : w3.heap.size = w2.heap.size := by rw [hw3]; simp [World.setCell]
 have k3 : ∀ i, i ≠ g → w3.heap[i]? = w2.heap[i]? := fun i hi => by rw [hw3]; exact (Below.heap_setCell _ _ _ _ hi).trans (Below.heap_setCell _ _ _ _ hi)
 have kw : ∀ i, i ≠ g → i < w.heap.size → w3.heap[i]? = w.heap[i]? := fun i hi hl => (k3 i hi).trans ((b2.block i (by omega)).trans (b1.block i hl))
 have k1 : ∀ i, i ≠ g → i < w1.heap.size → w3.heap[i]? = w1.heap[i]? := fun i hi hl => (k3 i hi).trans (b2.block i hl)
 have hY : w.heap.size ≤ Y ∧ Y < w1.heap.size := o1.lt
 have hF : ∀ i, isB F i → w1.heap.size ≤ i ∧ i < w2.heap.size := fun i ⟨x, hx, hi⟩ => by subst hx hi; exact o2.lt
 have hz : (rs.zip os).length = n := by rw [List.length_zip]; omega
 have h1 : (rs.zip os).map (·.1) = rs := List.map_fst_zip (by omega)
 have h2 : (rs.zip os).map ofV = os.map txC := by
  have e : (rs.zip os).map ofV = ((rs.zip os).map (·.2)).map txC := by rw [List.map_map]; rfl
  rw [e, List.map_snd_zip (by omega)]
 refine ⟨{ a with R := some ⟨Y, 0, none⟩, cr := n, F := F, cf := cf, f := f, Q := fun b => (w.heap.size ≤ b ∧ b ≠ Y) ∧ b < w1.heap.size }, ⟨?_, h.defs.keepB fun i hi => kw i (by rintro rfl; exact ap.d hi) (hlt i (.inl (.inr (.inl hi)))), ?_, ?_, h.keys.keep (by omega) fun i hi => kw i (by rintro rfl; exact ap.k hi) (hlt i (.inl (.inr (.inr (.inr (.inr hi)))))), ?_, fun b hb => ⟨?_, fun hm => ?_⟩, h.sz, h.dm, by rw [hz]; exact h64⟩, ?_, fun k hk => ?_, fun k hk => ?_⟩
 ·have e0 : w2.heap[g]? = _ := ((b2.block g (by omega)).trans (b1.block g hg)).trans h.obj
  have e1 := heap_setCell_same w2 g 2 _ _ (.slice (some ⟨Y, 0, none⟩) n n) e0
  have e2 := heap_setCell_same _ g 3 _ _ (.slice F n cf) e1
  rw [hw3, e2]
  simp [flC, hz]
 ·have := (o1.keepB (w' := w3) fun i hi => by obtain ⟨x, hx, rfl⟩ := hi; cases hx; exact k1 Y (by omega) hY.2).low (Nat.zero_le _)
  show OwnK w3 0 _ 4 _ _ (rsV (rs.zip os) f)
  rw [rsV_rw, h1]
  exact this
 ·show OwnK w3 0 _ 1 _ _ ((rs.zip os).map ofV)
  rw [h2]
  exact (o2.keepB (w' := w3) fun i hi => k3 i (by have := hF i hi; omega)).low (Nat.zero_le _)
 ·exact rwO (Y := Y) (fun i hi => ((i1 i hi).here.keep (by omega) fun b hb hl => k1 b (by have := hb.1.1; omega) hl)) h1.symm
 ·have hb' : (w.heap.size ≤ b ∧ b ≠ Y) ∧ b < w1.heap.size := hb
  omega
 ·have hb' : (w.heap.size ≤ b ∧ b ≠ Y) ∧ b < w1.heap.size := hb
  rcases hm with rfl | hm | ⟨x, hx, hm⟩ | hm | hm
  ·omega
  ·have := hlt _ (.inl (.inr (.inl hm))); omega
  ·cases hx; exact hb'.1.2 hm
  ·have := hF _ hm; omega
  ·have := hlt _ (.inl (.inr (.inr (.inr (.inr hm))))); omega
 ·refine ⟨?_, ?_, ?_, by omega, fun i hi hn2 => kw i (fun e => hn2 (.inl e)) hi⟩
  ·rw [hw3]; exact b2.os.trans b1.os
  ·rw [hw3]; exact b2.tape.trans b1.tape
  ·rw [hw3]; exact b2.output.trans b1.output
 ·rcases hk with rfl | hk | ⟨x, hx, hk⟩ | hk | hk
  ·exact .inl (.inl rfl)
  ·exact .inl (.inr (.inl hk))
  ·cases hx; have hk' : k = Y := hk; exact .inr (by omega)
  ·have := hF _ hk; exact .inr (by omega)
  ·exact .inl (.inr (.inr (.inr (.inr hk))))
 ·have hk' : (w.heap.size ≤ k ∧ k ≠ Y) ∧ k < w1.heap.size := hk
  exact .inr hk'.1.1
set_option maxHeartbeats 4000000 in
theorem takeRuns_any {w0 w : World} {g : Nat} {s0 : Fw.S} (h : MadeF w0 g s0 w) (hT : ∀ p ∈ s0.defs, Df.Ok p.2 ∧ Df.parse (Df.showT p.2) = (p.2, 0)) (hF : FactsD w0) (R F : Option Addr) (rs : List Rn.R) (os : List ByteArray) (cr cf : Nat) (O : Nat → Prop) (hr : RunsO w0 O R rs) (ho : NmsO w0 O F os) (hsg : ∀ r ∈ rs, r.sg.length ≤ 1000) :
  Calls Tryz.prog 47 #[.pointer (some ⟨g, 0, none⟩), .slice R rs.length cr, .slice F os.length cf] w (TkG w0 g (rnB s0 rs os) { s0 with runs := rs.zip os }) := by
 obtain ⟨n, hn1⟩ : ∃ n, n = rs.length := ⟨_, rfl⟩
 obtain ⟨m, hm1⟩ : ∃ m, m = os.length := ⟨_, rfl⟩
 have HN := Lib.hid hn1
 have HM := Lib.hid hm1
 have V : Hid (rnB s0 rs os = (decide (n ≤ 64) && (decide (n = m) && (List.range n).all (rnI s0 rs os)))) := Lib.hid (by rw [hn1, hm1]; rfl)
 generalize rnB s0 rs os = v at *
 have H := Lib.hid h
 have RS := Lib.hid hr
 have OS := Lib.hid ho
 have HF := Lib.hid hF
 have HT := Lib.hid hT
 have SG := Lib.hid hsg
 rw [← hn1, ← hm1]
 clear h hr ho hF hT hsg hn1 hm1
 by_cases h16 : ¬ (n ≤ 64)
 ·have R' : Hid (v = false) := Lib.hid (by rw [V.out, decide_eq_false h16]; rfl)
  have hi : (64 : Int) < (n : Int) := by omega
  clear V h16
  go_enter Tryz.func47, Tryz.ntmps47
  go_wp2
  go_ret
  exact TkG.no H.out rfl R'.out
 have n16 : n ≤ 64 := Decidable.not_not.1 h16
 have hi : ¬ (64 : Int) < (n : Int) := by omega
 by_cases hnm : ¬ (n = m)
 ·have R' : Hid (v = false) := Lib.hid (by rw [V.out, decide_eq_false hnm]; simp)
  have hnm' : ((n : Int) != (m : Int)) = true := by simp; omega
  clear V h16
  go_enter Tryz.func47, Tryz.ntmps47
  go_wp2
  go_ret
  exact TkG.no H.out rfl R'.out
 have hnm2 : n = m := Decidable.not_not.1 hnm
 have V2 : Hid (v = (List.range n).all (rnI s0 rs os)) := Lib.hid (by rw [V.out, decide_eq_true n16, decide_eq_true hnm2]; rfl)
 have LE : Hid (rs.length = os.length) := Lib.hid (by rw [← HN.out, ← HM.out]; exact hnm2)
 clear V h16 hnm
 subst hnm2
 go_enter Tryz.func47, Tryz.ntmps47
 go_wp2_with fail
 go_loopw [23] (fun iv wr => ∃ k : Nat, k ≤ n ∧ iv = .int .i64 k ∧ Hid (∀ i, i < k → rnI s0 rs os i = true) ∧ Hid (MadeF w0 g s0 wr)) (fun iv _ => n - (intOf iv).toNat)
 case atStart => exact ⟨0, Nat.zero_le _, rfl, Lib.hid (fun i hi => by omega), H⟩
 case round =>
  obtain ⟨k, hk, rfl, HA, HI⟩ := hrel
  obtain ⟨a, p, mm, bw⟩ := HI.out
  have P := Lib.hid p
  have MM := Lib.hid mm
  have BW := Lib.hid bw
  clear p mm bw
  by_cases hlt : k < n
  ·have hlt' : (k : Int) < (n : Int) := by omega
   have K1 : Hid (k < rs.length) := Lib.hid (by rw [← HN.out]; exact hlt)
   have K2 : Hid (k < os.length) := Lib.hid (by rw [← HM.out]; exact hlt)
   obtain ⟨bf, of_, hF, f0, -⟩ := OS.out.at_ K2.out
   have f1 := (BW.out.cell (block_lt f0)).trans f0
   obtain ⟨b, off, hR, -, hb, hc⟩ := (RowO.keep RS.out BW.out.size fun b _ hl => BW.out.block b hl : RowO wr O R rs.length 4 _) (by have := K1.out; omega)
   obtain ⟨pr, c0, c1, c2, c3, -, -⟩ := hc k K1.out
   have hro : RunO w0 O pr (rs.getD k Rn.r0) ∨ True := .inr trivial
   clear hro
   obtain ⟨b', off', hR', -, hb', hc'⟩ := RS.out (by have := K1.out; omega)
   obtain ⟨pr', c0', c1', c2', c3', hro, -⟩ := hc' k K1.out
   have hbb : b' = b ∧ off' = off := by
    rw [hR] at hR'
    injection hR' with hR'
    injection hR' with e1 e2
    exact ⟨e1.symm, e2.symm⟩
   obtain ⟨rfl, rfl⟩ := hbb
   have RR := Lib.hid (fun W (hW : Below w0.heap.size w0 W) => hro.on hW)
   have d0 : wr.cell? ⟨b', off' + k * 4, none⟩ = some (.slice pr'.A (rs.getD k Rn.r0).d.length pr'.ca) := (BW.out.cell (p := ⟨b', off' + k * 4, none⟩) hb').trans c0'
   have d1 : wr.cell? ⟨b', off' + k * 4 + 1, none⟩ = some (.int .i64 (rs.getD k Rn.r0).st) := (BW.out.cell (p := ⟨b', off' + k * 4 + 1, none⟩) hb').trans c1'
   have d2 : wr.cell? ⟨b', off' + k * 4 + 2, none⟩ = some (.slice pr'.T (rs.getD k Rn.r0).ts.length pr'.ct) := (BW.out.cell (p := ⟨b', off' + k * 4 + 2, none⟩) hb').trans c2'
   have d3 : wr.cell? ⟨b', off' + k * 4 + 3, none⟩ = some (.slice pr'.S (rs.getD k Rn.r0).sg.length pr'.cs) := (BW.out.cell (p := ⟨b', off' + k * 4 + 3, none⟩) hb').trans c3'
   have SGK : Hid ((rs.getD k Rn.r0).sg.length ≤ 1000) := Lib.hid (SG.out _ (by rw [getD_at K1.out]; exact List.getElem_mem _))
   have RI : Hid (rnI s0 rs os k = match Fw.lookD s0 (os.getD k ByteArray.empty) with | none => false | some d => irB d (rs.getD k Rn.r0)) := Lib.hid rfl
   have FB : Hid (rnI s0 rs os k = false → v = false) := Lib.hid fun e => by
    rw [V2.out, List.all_eq_false]
    exact ⟨k, List.mem_range.2 hlt, by rw [e]; decide⟩
   have NXA : Hid (rnI s0 rs os k = true → ∀ i, i < k + 1 → rnI s0 rs os i = true) := Lib.hid fun e i hi => by
    by_cases h : i = k
    ·subst h; exact e
    ·exact HA.out i (by omega)
   have LK : Hid (∀ d, Fw.lookD s0 (os.getD k ByteArray.empty) = some d → Df.Ok d) := Lib.hid fun d hd => (HT.out _ (Fw.look_mem hd)).1
   generalize rnI s0 rs os k = ri at *
   obtain ⟨r, hr⟩ : ∃ r, r = rs.getD k Rn.r0 := ⟨_, rfl⟩
   have HRR := Lib.hid hr
   rw [← hr] at d0 d1 d2 d3 SGK RI RR
   clear hr c0 c1 c2 c3 c0' c1' c2' c3' hro hc hc' hb hb' f0 hR'
   subst hF hR
   generalize os.getD k ByteArray.empty = na at *
   have CD := Lib.hid (fun W (hW : Below wr.heap.size wr W) => def_any (P.out.on hW) (fun p hp => (HT.out p hp).2) ((HF.out.on BW.out).on hW) na)
   unfold DefG at CD
   generalize Fw.lookD s0 na = o at *
   obtain ⟨an, han⟩ : ∃ z, z = r.d.length := ⟨_, rfl⟩
   obtain ⟨st, hst⟩ : ∃ z, z = r.st := ⟨_, rfl⟩
   obtain ⟨tn, htn⟩ : ∃ z, z = r.ts.length := ⟨_, rfl⟩
   obtain ⟨sn, hsn⟩ : ∃ z, z = r.sg.length := ⟨_, rfl⟩
   rw [← han] at d0
   rw [← hst] at d1
   rw [← htn] at d2
   rw [← hsn] at d3
   have RL : Hid (rv pr' r = .agg #[.slice pr'.A an pr'.ca, .int .i64 st, .slice pr'.T tn pr'.ct, .slice pr'.S sn pr'.cs]) := Lib.hid (by unfold rv; rw [han, hst, htn, hsn])
   clear han hst htn hsn
   obtain ⟨w2, hw2⟩ : ∃ w2, w2 = wr.alloc (.cells #[.slice pr'.A an pr'.ca, .int .i64 st, .slice pr'.T tn pr'.ct, .slice pr'.S sn pr'.cs] 41) := ⟨_, rfl⟩
   have B2 : Hid (Below wr.heap.size wr w2) := Lib.hid (by rw [hw2]; exact (Below.refl _ _).alloc (Nat.le_refl _) _)
   have X2 : Hid (w2.heap[wr.heap.size]? = some (.cells #[.slice pr'.A an pr'.ca, .int .i64 st, .slice pr'.T tn pr'.ct, .slice pr'.S sn pr'.cs] 41 (0, 0))) := Lib.hid (by rw [hw2]; exact heap_alloc_new _ _)
   have f2 := (B2.out.cell (block_lt f1)).trans f1
   have CE := Lib.hid (CD.out w2 B2.out)
   go_upto_region 6 with (fail)
   rw [← hw2]
   clear hw2 d0 d1 d2 d3 f1 CD
   go_wp2_with fail
   refine CE.out.mono ?_; rintro e w3 ⟨A3, c3, rfl, d3, b3⟩
   have B3 : Hid (Below wr.heap.size wr w3) := Lib.hid (B2.out.trans (b3.out.mono B2.out.size))
   have X3 : Hid (w3.heap[wr.heap.size]? = _) := Lib.hid ((b3.out.block _ (lt_of_block X2.out)).trans X2.out)
   clear CE f2 b3 X2
   cases o with
   | none =>
    have R' : Hid (v = false) := Lib.hid (FB.out RI.out)
    have IX := Lib.hid (HI.out.on (B3.out.alloc B3.out.size (.cells #[.slice A3 0 c3] 37)))
    dsimp only [Option.getD_none, List.length_nil, Option.isSome_none]
    go_wp2
    go_ret
    exact TkG.no IX.out rfl R'.out
   | some d =>
    dsimp only [Option.getD_some, Option.isSome_some] at d3 RI ⊢
    obtain ⟨dn, hdn⟩ : ∃ z, z = d.length := ⟨_, rfl⟩
    have HDN := Lib.hid hdn
    rw [← hdn]
    clear hdn
    obtain ⟨w4, hw4⟩ : ∃ w4, w4 = w3.alloc (.cells #[.slice A3 dn c3] 37) := ⟨_, rfl⟩
    have B34 : Hid (Below w3.heap.size w3 w4) := Lib.hid (by rw [hw4]; exact (Below.refl _ _).alloc (Nat.le_refl _) _)
    have B4 : Hid (Below wr.heap.size wr w4) := Lib.hid (B3.out.trans (B34.out.mono B3.out.size))
    have y4 : w4.cell? ⟨w3.heap.size, 0, none⟩ = some (.slice A3 dn c3) := by rw [hw4]; simp
    obtain ⟨⟨z0, z1, z2, z3⟩, -⟩ := obj4 ((B34.out.block _ (lt_of_block X3.out)).trans X3.out)
    have CI := Lib.hid (isRunOf_any A3 d c3 (LK.out d rfl) pr' r SGK.out w4 O (d3.out.on B34.out) (RR.out w4 (BW.out.trans (B4.out.mono BW.out.size))))
    rw [RL.out, ← HDN.out] at CI
    rw [← RI.out] at CI
    go_upto_region 7 with (fail)
    rw [← hw4]
    clear hw4
    go_wp2_with fail
    refine CI.out.mono ?_; rintro e w5 ⟨rfl, b5⟩
    have I5 := Lib.hid (HI.out.on (B4.out.trans (b5.out.mono B4.out.size)))
    clear CI y4 z0 z1 z2 z3
    cases hri : ri with
    | false =>
     have R' : Hid (v = false) := Lib.hid (FB.out hri)
     clear hri
     go_wp2
     go_ret
     exact TkG.no I5.out rfl R'.out
    | true =>
     have NX := Lib.hid (NXA.out hri)
     clear hri
     go_wp2
     go_roundw
     case rel => exact ⟨k + 1, by omega, by go_num, NX, I5⟩
     case measure => simp [intOf]; omega
  ·obtain rfl : k = n := by omega
   have hge : ¬ (k : Int) < (k : Int) := by omega
   have R' : Hid (v = true) := Lib.hid (by rw [V2.out]; exact List.all_eq_true.2 fun i hi => HA.out i (List.mem_range.1 hi))
   have BD : Hid (∀ r ∈ rs, Bd r) := Lib.hid fun r hr => by
    obtain ⟨i, hi2, rfl⟩ := List.getElem_of_mem hr
    have := HA.out i (by rw [HN.out]; exact hi2)
    unfold rnI at this
    rw [getD_at hi2] at this
    cases hl : Fw.lookD s0 (os.getD i ByteArray.empty) with
    | none => rw [hl] at this; cases this
    | some d =>
     rw [hl] at this
     obtain ⟨e, hv⟩ := irB_iff.1 this
     exact runV_bd hv (by rw [e]; exact (HT.out _ (Fw.look_mem hl)).1)
   have CR : Hid (Calls Tryz.prog 37 #[.slice R k cr] wr (CopsG wr rs k)) := Lib.hid (copiesOf_any R cr rs BD.out (by have := HN.out; omega) k HN.out wr O (RS.out.keep BW.out.size fun b _ hl => BW.out.block b hl))
   have CO : Hid (∀ W, Below wr.heap.size wr W → Calls Tryz.prog 38 #[.slice F k cf] W (RowK W 9 1 k (os.map txC))) := Lib.hid fun W hW =>
    cloneS F _ (txC_wide os) (by rw [List.length_map]; have := HM.out; omega) k (by rw [List.length_map]; exact HM.out) cf W (OS.out.keep (BW.out.trans (hW.mono BW.out.size)).size fun b _ hl => (BW.out.trans (hW.mono BW.out.size)).block b hl).srcT
   obtain ⟨⟨-, -, c2, c3, -⟩, -⟩ := P.out.cells
   have GL : Hid (g < wr.heap.size) := Lib.hid (lt_of_block P.out.obj)
   clear c2 c3
   go_wp2_with fail
   refine CR.out.mono ?_; rintro e w2 ⟨Y, f, rfl, o2, i2, b2⟩
   clear CR
   go_wp2_with fail
   refine (CO.out w2 b2.out).mono ?_; rintro e w3 ⟨F3, cf3, rfl, o3, b3⟩
   have G3 : Hid (w3.heap[g]? = wr.heap[g]?) := Lib.hid ((b3.out.block _ (Nat.lt_of_lt_of_le GL.out b2.out.size)).trans (b2.out.block _ GL.out))
   have e4 := G3.out.trans P.out.obj
   have e5 := heap_setCell_same _ g 2 _ _ (.slice (some ⟨Y, 0, none⟩) k k) e4
   have c2 := (obF e4).1.2.2.1
   have f2 := (obF e4).2.2.2.1
   have c3 := (obF e5).1.2.2.2.1
   have f3 := (obF e5).2.2.2.2.1
   have FIN := Lib.hid (P.out.setRuns b2.out HN.out LE.out n16 o2.out i2.out b3.out o3.out)
   clear e4 e5 CO
   go_wp2
   go_ret
   obtain ⟨a', p', q'⟩ := FIN.out
   exact TkG.yes (MadeF.step P.out MM.out BW.out p' q') rfl rfl R'.out
end Go.Proofs.YtkbekojnmdgdgaaGreatDoor
