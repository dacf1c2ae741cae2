/-
  Part 30 of the texts behind the law: YFlChange, YFlApply, YFlAll, YFlProg, YFlOne, YFlAwake, YFlKeysP, YFlKeys, YBoolsIn.
-/
import Derived.Test.YtkbekojnmdgdgaaGreatDoorYk27
import Derived.Test.YtkbekojnmdgdgaaGreatDoorYk24
import Derived.Test.YtkbekojnmdgdgaaGreatDoorYk9
import Derived.BigQuiet
import Derived.Test.YtkbekojnmdgdgaaGreatDoorYk29
import Derived.Test.YtkbekojnmdgdgaaGreatDoorYk20
import Derived.Test.YtkbekojnmdgdgaaGreatDoorYk11
import Derived.Laws.MakeOwn
import Derived.Test.YtkbekojnmdgdgaaGreatDoorYk5
import Derived.Test.YtkbekojnmdgdgaaGreatDoorYk25
import Derived.Test.YtkbekojnmdgdgaaGreatDoorYk1
import Derived.Laws.StructEq
import Derived.Test.YtkbekojnmdgdgaaGreatDoorYk4
import Derived.Test.YtkbekojnmdgdgaaGreatDoorYk21
import Derived.Deep.QuietTactic
import Derived.Test.YtkbekojnmdgdgaaGreatDoorYk22
import Derived.Test.YtkbekojnmdgdgaaGreatDoorYk2
/- FlChange -/
namespace Go.Proofs.YtkbekojnmdgdgaaGreatDoor
open Go.RowKit Go.Maps
set_option maxRecDepth 20000
def Fw.actT (s : Fw.S) (e : Ev.E) : Fw.S := if Fw.actE s e = 0 then Fw.actS s e else s
set_option maxHeartbeats 4000000 in
theorem change_any {w : World} {g : Nat} {a : FAt} {s : Fw.S} (h : FPM w g a s) (hI : Fw.Inv s) (e : Ev.E) (he : EvIn e) (hr1 : 1 ≤ e.run) (hn : e.name.size ≤ 140737488355328) (hd : e.data.size ≤ 140737488355328) :
    Calls Tryz.prog 32 #[.pointer (some ⟨g, 0, none⟩), .agg (evc e)] w (ActG w g a (Fw.actE s e) (Fw.actT s e)) := by
  obtain ⟨w1, hw1⟩ : ∃ w1, w1 = w.alloc (.cells (evc e) 28) := ⟨_, rfl⟩
  have B1 : Hid (Below w.heap.size w w1) := Lib.hid (by rw [hw1]; exact (Below.refl _ _).alloc (Nat.le_refl _) _)
  have X1 : Hid (w1.heap[w.heap.size]? = some (.cells (evc e) 28 (0, 0))) := Lib.hid (by rw [hw1]; exact evBox _ _ _)
  have H := Lib.hid h
  have H1 := Lib.hid (h.on B1.out)
  obtain ⟨m, hm⟩ : ∃ m, m = s.runs.length := ⟨_, rfl⟩
  have HM := Lib.hid hm
  have hm9 : m ≤ 64 := by rw [hm]; exact h.rm
  obtain ⟨⟨c0, -, c2, -, -⟩, -⟩ := H1.out.cells
  rw [← hm] at c2
  obtain ⟨v0, v1, v2, v3, v4, v5, v6, v7⟩ := ev8 X1.out
  obtain ⟨ru, hru⟩ : ∃ ru, ru = e.run := ⟨_, rfl⟩
  have RU := Lib.hid hru
  rw [← hru] at v1 hr1
  have KI : Hid (Fw.Inv s) := Lib.hid hI
  have HE := Lib.hid (And.intro he (And.intro hn hd))
  have V : Hid (Fw.actE s e = if (m : Int) < ru then 4 else (Fw.act s.clock e (Fw.run s ru)).2) := Lib.hid (by unfold Fw.actE; rw [hm, hru])
  have VS : Hid (Fw.actT s e = if Fw.actE s e = 0 then Fw.setR s ru (Fw.act s.clock e (Fw.run s ru)).1 else s) := Lib.hid (by unfold Fw.actT Fw.actS; rw [hru])
  generalize Fw.actE s e = v at *
  generalize Fw.actT s e = s2 at *
  clear h hI he hn hd hm
  by_cases hlt : (m : Int) < ru
  · have R : Hid (v = 4) := Lib.hid (by rw [V.out, if_pos hlt])
    have RS' : Hid (s2 = s) := Lib.hid (by rw [VS.out, if_neg (by rw [R.out]; decide)])
    clear V VS v0 v2 v3 v4 v5 v6 v7 c0 hru
    unfold evc at hw1 ⊢
    go_enter Tryz.func32, Tryz.ntmps32
    go_upto_region 1 with (fail)
    rw [← hw1]
    clear hw1
    go_quiet (fail)
    go_wp2
    go_ret
    rw [RS'.out]
    exact ActG.same H.out (below_n B1.out _) R.out.symm
  · obtain ⟨k, rfl⟩ : ∃ k : Nat, ru = (k : Int) + 1 := ⟨(ru - 1).toNat, by omega⟩
    have hkm : k < m := by omega
    have HK : Hid (k < s.runs.length) := Lib.hid (by rw [← HM.out]; exact hkm)
    have RK : Hid (Fw.run s ((k : Int) + 1) = rAt s.runs k) := Lib.hid (by unfold Fw.run rAt; rw [show ((k : Int) + 1 - 1).toNat = k by omega]; rfl)
    have V2 : Hid (v = (Fw.act s.clock e (rAt s.runs k)).2) := Lib.hid (by rw [V.out, if_neg hlt, RK.out])
    have VT : Hid (s2 = if v = 0 then { s with runs := s.runs.modify k fun q => ((Fw.act s.clock e (rAt s.runs k)).1, q.2) } else s) := Lib.hid (by
      rw [VS.out, RK.out]
      unfold Fw.setR
      rw [show ((k : Int) + 1 - 1).toNat = k by omega])
    have RI : Hid (Rn.Inv (rAt s.runs k)) := Lib.hid (by rw [rAt_get HK.out]; exact (KI.out.rok _ (List.getElem_mem HK.out)).1.toInv)
    obtain ⟨b, hA, -, hb⟩ := H1.out.runs.shape (by rw [rsV_len]; have := HK.out; omega)
    have HA := Lib.hid hA
    have hrow := H1.out.runs
    rw [hA] at hrow c2
    obtain ⟨y0, y1, y2, y3⟩ := rsV_cells hrow HK.out
    have CK : Hid (0 ≤ s.clock ∧ s.clock ≤ Rn.tickMax) := Lib.hid ⟨KI.out.c0, by have := KI.out.c1; unfold Rn.tickMax; omega⟩
    have CC := Lib.hid (fun W (hW : Below w1.heap.size w1 W) => changed_any (a.f k) (rAt s.runs k) RI.out W a.Q ((H1.out.inner k HK.out).on hW) e HE.out.1 HE.out.2.1 HE.out.2.2 s.clock CK.out.1 CK.out.2)
    clear V VS RK RI hrow hA hru
    generalize rAt s.runs k = r at *
    generalize Fw.act s.clock e r = x at *
    obtain ⟨p, hp⟩ : ∃ p, p = a.f k := ⟨_, rfl⟩
    rw [← hp] at y0 y2 y3 CC
    clear hp
    unfold rv at CC
    generalize r.d.length = an at *
    generalize r.st = st at *
    generalize r.ts.length = tn at *
    generalize r.sg.length = sn at *
    obtain ⟨c, hc⟩ : ∃ c, c = s.clock := ⟨_, rfl⟩
    rw [← hc] at c0 CC
    clear hc
    unfold evc at hw1 CC ⊢
    go_enter Tryz.func32, Tryz.ntmps32
    go_upto_region 1 with (fail)
    rw [← hw1]
    clear hw1
    go_quiet (fail)
    go_upto_region 3 with (fail)
    generalize hw2 : w1.drewN nq = w2
    have B12 : Hid (Below w1.heap.size w1 w2) := Lib.hid (by rw [← hw2]; exact below_n (Below.refl _ _) _)
    clear hw2
    have SD : Hid (∀ W, Below w1.heap.size w1 W → W.cell? ⟨g, 0, none⟩ = some (.int .i64 c) ∧ W.cell? ⟨g, 2, none⟩ = some (.slice (some ⟨b, 0, none⟩) m a.cr) ∧ (W.cell? ⟨b, k * 4, none⟩ = some (.slice p.A an p.ca) ∧ W.cell? ⟨b, k * 4 + 1, none⟩ = some (.int .i64 st) ∧ W.cell? ⟨b, k * 4 + 2, none⟩ = some (.slice p.T tn p.ct) ∧ W.cell? ⟨b, k * 4 + 3, none⟩ = some (.slice p.S sn p.cs)) ∧
        W.cell? ⟨w.heap.size, 0, none⟩ = some (.int .i64 e.kind) ∧ W.cell? ⟨w.heap.size, 1, none⟩ = some (.int .i64 (k + 1)) ∧ W.cell? ⟨w.heap.size, 2, none⟩ = some (.int .i64 e.task) ∧ W.cell? ⟨w.heap.size, 3, none⟩ = some (.int .i64 e.try_) ∧ W.cell? ⟨w.heap.size, 4, none⟩ = some (.int .i64 e.n) ∧ W.cell? ⟨w.heap.size, 5, none⟩ = some (.string e.name) ∧ W.cell? ⟨w.heap.size, 6, none⟩ = some (.string e.key) ∧ W.cell? ⟨w.heap.size, 7, none⟩ = some (.string e.data)) := Lib.hid fun W hW => by
      have hc : ∀ {bb o : Nat} {u : Value}, w1.cell? ⟨bb, o, none⟩ = some u → W.cell? ⟨bb, o, none⟩ = some u := fun h => (hW.cell (block_lt h)).trans h
      exact ⟨hc c0, hc c2, ⟨hc y0, hc y1, hc y2, hc y3⟩, hc v0, hc v1, hc v2, hc v3, hc v4, hc v5, hc v6, hc v7⟩
    clear c0 c2 y0 y1 y2 y3 v0 v1 v2 v3 v4 v5 v6 v7
    obtain ⟨an2, han⟩ : ∃ z, z = x.1.d.length := ⟨_, rfl⟩
    obtain ⟨st2, hst⟩ : ∃ z, z = x.1.st := ⟨_, rfl⟩
    obtain ⟨tn2, htn⟩ : ∃ z, z = x.1.ts.length := ⟨_, rfl⟩
    obtain ⟨sn2, hsn⟩ : ∃ z, z = x.1.sg.length := ⟨_, rfl⟩
    obtain ⟨er, her⟩ : ∃ z, z = x.2 := ⟨_, rfl⟩
    have CU : Hid (∀ W, Below w1.heap.size w1 W → Calls Tryz.prog 62 #[.agg #[.slice p.A an p.ca, .int .i64 st, .slice p.T tn p.ct, .slice p.S sn p.cs], .agg #[.int .i64 e.kind, .int .i64 ((k : Int) + 1), .int .i64 e.task, .int .i64 e.try_, .int .i64 e.n, .string e.name, .string e.key, .string e.data], .int .i64 c] W (RunY W x.1 an2 st2 tn2 sn2 er)) := Lib.hid fun W hW => by
      have := CC.out W hW
      rw [← RU.out] at this
      exact this.mono fun _ _ h => h.of (Prod.ext rfl her.symm) han.symm hst.symm htn.symm hsn.symm
    have RR : Hid (x.1.d.length = an2 ∧ x.1.st = st2 ∧ x.1.ts.length = tn2 ∧ x.1.sg.length = sn2) := Lib.hid ⟨han.symm, hst.symm, htn.symm, hsn.symm⟩
    rw [← her] at V2
    clear CC han hst htn hsn her
    unfold RunY at CU
    have DB : Hid (Below w1.heap.size w1 w2.drew) := Lib.hid B12.out.drew
    have LX : Hid (w.heap.size < w1.heap.size) := Lib.hid (lt_of_block X1.out)
    have hk' : (k : Int) < (m : Int) := by omega
    have hkw : IntKind.i64.wrap (k : Int) = (k : Int) := IntWalk.i64_in _ (by omega)
    refine wp_region_C (fun w' => w'.cell? ⟨g, 0, none⟩ = some (.int .i64 c) ∧ w'.cell? ⟨g, 2, none⟩ = some (.slice (some ⟨b, 0, none⟩) m a.cr) ∧ (w'.cell? ⟨b, k * 4, none⟩ = some (.slice p.A an p.ca) ∧ w'.cell? ⟨b, k * 4 + 1, none⟩ = some (.int .i64 st) ∧ w'.cell? ⟨b, k * 4 + 2, none⟩ = some (.slice p.T tn p.ct) ∧ w'.cell? ⟨b, k * 4 + 3, none⟩ = some (.slice p.S sn p.cs)) ∧ w'.cell? ⟨w.heap.size, 0, none⟩ = some (.int .i64 e.kind) ∧ w'.cell? ⟨w.heap.size, 1, none⟩ = some (.int .i64 (k + 1)) ∧ w'.cell? ⟨w.heap.size, 2, none⟩ = some (.int .i64 e.task) ∧ w'.cell? ⟨w.heap.size, 3, none⟩ = some (.int .i64 e.try_) ∧ w'.cell? ⟨w.heap.size, 4, none⟩ = some (.int .i64 e.n) ∧ w'.cell? ⟨w.heap.size, 5, none⟩ = some (.string e.name) ∧ w'.cell? ⟨w.heap.size, 6, none⟩ = some (.string e.key) ∧ w'.cell? ⟨w.heap.size, 7, none⟩ = some (.string e.data)) 19 (by kernel_rfl) ?_
    have hS0 : (fun w' : World => w'.cell? ⟨g, 0, none⟩ = some (.int .i64 c) ∧ w'.cell? ⟨g, 2, none⟩ = some (.slice (some ⟨b, 0, none⟩) m a.cr) ∧ (w'.cell? ⟨b, k * 4, none⟩ = some (.slice p.A an p.ca) ∧ w'.cell? ⟨b, k * 4 + 1, none⟩ = some (.int .i64 st) ∧ w'.cell? ⟨b, k * 4 + 2, none⟩ = some (.slice p.T tn p.ct) ∧ w'.cell? ⟨b, k * 4 + 3, none⟩ = some (.slice p.S sn p.cs)) ∧ w'.cell? ⟨w.heap.size, 0, none⟩ = some (.int .i64 e.kind) ∧ w'.cell? ⟨w.heap.size, 1, none⟩ = some (.int .i64 (k + 1)) ∧ w'.cell? ⟨w.heap.size, 2, none⟩ = some (.int .i64 e.task) ∧ w'.cell? ⟨w.heap.size, 3, none⟩ = some (.int .i64 e.try_) ∧ w'.cell? ⟨w.heap.size, 4, none⟩ = some (.int .i64 e.n) ∧ w'.cell? ⟨w.heap.size, 5, none⟩ = some (.string e.name) ∧ w'.cell? ⟨w.heap.size, 6, none⟩ = some (.string e.key) ∧ w'.cell? ⟨w.heap.size, 7, none⟩ = some (.string e.data)) w2.drew := SD.out _ DB.out
    refine takP [3, 2, 1] 0 (h := ?_)
    try simp only [Act.put, List.setIfInBounds_toArray, List.set_cons_zero, List.set_cons_succ]
    refine takP [3, 2] 1 (h := ?_)
    try simp only [Act.put, List.setIfInBounds_toArray, List.set_cons_zero, List.set_cons_succ]
    refine takP [3] 2 (h := ?_)
    try simp only [Act.put, List.setIfInBounds_toArray, List.set_cons_zero, List.set_cons_succ]
    refine takC 3 (h := ?_)
    try simp only [Act.put, List.setIfInBounds_toArray, List.set_cons_zero, List.set_cons_succ]
    refine takC 4 (h := ?_)
    try simp only [Act.put, List.setIfInBounds_toArray, List.set_cons_zero, List.set_cons_succ]
    refine takC 5 (h := ?_)
    try simp only [Act.put, List.setIfInBounds_toArray, List.set_cons_zero, List.set_cons_succ]
    refine takC 6 (h := ?_)
    try simp only [Act.put, List.setIfInBounds_toArray, List.set_cons_zero, List.set_cons_succ]
    refine takC 7 (h := ?_)
    try simp only [Act.put, List.setIfInBounds_toArray, List.set_cons_zero, List.set_cons_succ]
    refine takC 8 (h := ?_)
    try simp only [Act.put, List.setIfInBounds_toArray, List.set_cons_zero, List.set_cons_succ]
    refine takC 9 (h := ?_)
    try simp only [Act.put, List.setIfInBounds_toArray, List.set_cons_zero, List.set_cons_succ]
    refine takC 10 (h := ?_)
    try simp only [Act.put, List.setIfInBounds_toArray, List.set_cons_zero, List.set_cons_succ]
    refine takC 11 (h := ?_)
    try simp only [Act.put, List.setIfInBounds_toArray, List.set_cons_zero, List.set_cons_succ]
    refine takC 12 (h := ?_)
    try simp only [Act.put, List.setIfInBounds_toArray, List.set_cons_zero, List.set_cons_succ]
    refine takC 13 (h := ?_)
    try simp only [Act.put, List.setIfInBounds_toArray, List.set_cons_zero, List.set_cons_succ]
    refine wpAnyC_two (i := 14) (j := 18) (oi := ?o1) (oj := ?p1) ?hi1 ?hj1 (by kernel_rfl) ?step1 ?more1
    case hi1 => (simp only [List.getElem?_toArray, List.getElem?_cons_zero, List.getElem?_cons_succ]; exact rfl)
    case hj1 => (simp only [List.getElem?_toArray, List.getElem?_cons_zero, List.getElem?_cons_succ]; exact rfl)
    · skip
      intro K' hK
      (go_simp; go_at_call 62; (with_reducible refine (CU.out _ DB.out).mono ?_); rintro r5 W5 ⟨q, rfl, o5, b5⟩; have Q5 : Hid (Below w1.heap.size w1 W5) := Lib.hid (DB.out.trans (b5.out.mono DB.out.size)); try dsimp only)
      refine hK.out _ _ ?_ (fun hHeld => ?_)
      · exact fun _ => SD.out _ Q5.out
      clear hK K' hHeld
      try simp only [Act.put, List.setIfInBounds_toArray, List.set_cons_zero, List.set_cons_succ]
      have S5 := SD.out _ Q5.out
      refine takP [16] 15 (h := ?_)
      try simp only [Act.put, List.setIfInBounds_toArray, List.set_cons_zero, List.set_cons_succ]
      refine takC 16 (h := ?_)
      try simp only [Act.put, List.setIfInBounds_toArray, List.set_cons_zero, List.set_cons_succ]
      refine takA 17 (h := ?_)
      try simp only [Act.put, List.setIfInBounds_toArray, List.set_cons_zero, List.set_cons_succ]
      refine wpAnyC_one (i := 18) (oi := ?o2) ?hi2 (by kernel_rfl) ?step2
      case hi2 => (simp only [List.getElem?_toArray, List.getElem?_cons_zero, List.getElem?_cons_succ]; exact rfl)
      intro K' hK
      go_simp
      refine hK.out _ _ ?_ (fun hHeld => ?_)
      · exact fun _ => SD.out _ (Q5.out.alloc Q5.out.size _)
      clear hK K' hHeld
      try simp only [Act.put, List.setIfInBounds_toArray, List.set_cons_zero, List.set_cons_succ]
      obtain ⟨W6, hW6⟩ : ∃ W6, W6 = W5.alloc (.cells #[.slice none 0 0, .int .i64 0, .slice none 0 0, .slice none 0 0] 41) := ⟨_, rfl⟩
      have YZ : Hid (W6.heap[W5.heap.size]? = some (.cells #[.slice none 0 0, .int .i64 0, .slice none 0 0, .slice none 0 0] 41 (0, 0))) := Lib.hid (by rw [hW6]; exact heap_alloc_new _ _)
      have BW : Hid (Below w1.heap.size w1 W6) := Lib.hid (by rw [hW6]; exact Q5.out.alloc Q5.out.size _)
      have Z6 : Hid (W6.heap.size = W5.heap.size + 1) := Lib.hid (by rw [hW6]; simp)
      rw [← hW6]
      have OW : Hid (RunO W6 (fun i => w2.heap.size ≤ i ∧ i < W5.heap.size) q x.1) := Lib.hid (o5.out.here.on (by rw [hW6]; exact (Below.refl _ _).alloc (Nat.le_refl _) _))
      clear hW6 S5
      have YL : Hid (w1.heap.size ≤ W5.heap.size ∧ w.heap.size < w1.heap.size ∧ w1.heap.size ≤ w2.heap.size ∧ W5.heap.size < W6.heap.size) := Lib.hid ⟨Q5.out.size, LX.out, B12.out.size, lt_of_block YZ.out⟩
      have yz := obj4 YZ.out
      obtain ⟨⟨z0, z1, z2, z3⟩, f0, f1, f2, f3⟩ := yz
      refine wpAnyC_one (i := 19) (oi := ?o3) ?hi3 (by kernel_rfl) ?step3
      case hi3 => (simp only [List.getElem?_toArray, List.getElem?_cons_zero, List.getElem?_cons_succ]; exact rfl)
      intro K' hK
      go_simp
      refine hK.out _ _ ?_ (fun hHeld => ?_)
      · exact fun h => (by cases h)
      clear hK K' hHeld
      try simp only [Act.put, List.setIfInBounds_toArray, List.set_cons_zero, List.set_cons_succ]
      clear z0 z1 z2 z3 f0 f1 f2 f3
      obtain ⟨W7, hW7⟩ : ∃ W7, W7 = S4 W6 (W5.heap.size) (.slice q.A an2 q.ca) (.int .i64 st2) (.slice q.T tn2 q.ct) (.slice q.S sn2 q.cs) := ⟨_, rfl⟩
      have Y7 : Hid (W7.heap[W5.heap.size]? = some (.cells #[.slice q.A an2 q.ca, .int .i64 st2, .slice q.T tn2 q.ct, .slice q.S sn2 q.cs] 41 (0, 0))) := Lib.hid (by rw [hW7]; exact S4.at_ YZ.out _ _ _ _)
      have K7 : Hid (∀ i, i ≠ W5.heap.size → W7.heap[i]? = W6.heap[i]?) := Lib.hid fun i hi => by rw [hW7]; exact S4.else_ _ _ _ _ _ _ hi
      have S7 : Hid (W7.heap.size = W6.heap.size) := Lib.hid (by rw [hW7]; exact S4.size_ _ _ _ _ _ _)
      have B7 : Hid (Below w1.heap.size w1 W7) := Lib.hid (by rw [hW7]; exact S4.below BW.out YL.out.1 _ _ _ _)
      have O7 : Hid (RunO W7 (fun i => w2.heap.size ≤ i ∧ i < W5.heap.size) q x.1) := Lib.hid (OW.out.keep (Nat.le_of_eq S7.out.symm) fun i hi _ => K7.out i (by have := YL.out; have := hi.1; have := hi.2; omega))
      rw [S4.lit, ← hW7]
      clear hW7
      refine wpAnyC_one (i := 20) (oi := ?o4) ?hi4 (by kernel_rfl) ?step4
      case hi4 => (simp only [List.getElem?_toArray, List.getElem?_cons_zero, List.getElem?_cons_succ]; exact rfl)
      intro K' hK
      go_simp
      refine hK.out _ _ ?_ (fun hHeld => ?_)
      · exact fun h => (by cases h)
      clear hK K' hHeld
      try simp only [Act.put, List.setIfInBounds_toArray, List.set_cons_zero, List.set_cons_succ]
      refine wpAnyC_done (by kernel_rfl) ?_ _
      by_cases hx : er = 0
      · subst hx
        have R : Hid (v = 0) := V2
        have RS' : Hid (s2 = { s with runs := s.runs.modify k fun q => (x.1, q.2) }) := Lib.hid (by rw [VT.out, if_pos R.out])
        have c2 := (SD.out _ B7.out).2.1
        have v1 := (SD.out _ B7.out).2.2.2.2.1
        obtain ⟨⟨z0, z1, z2, z3⟩, -⟩ := obj4 Y7.out
        have P7 := Lib.hid (H1.out.on B7.out)
        go_upto_region 6 with (fail)
        have SE : Hid (W7.drew.cell? ⟨g, 2, none⟩ = some (.slice (some ⟨b, 0, none⟩) m a.cr) ∧ W7.drew.cell? ⟨w.heap.size, 1, none⟩ = some (.int .i64 (k + 1)) ∧ W7.drew.cell? ⟨W5.heap.size, 0, none⟩ = some (.slice q.A an2 q.ca) ∧ W7.drew.cell? ⟨W5.heap.size, 1, none⟩ = some (.int .i64 st2) ∧ W7.drew.cell? ⟨W5.heap.size, 2, none⟩ = some (.slice q.T tn2 q.ct) ∧ W7.drew.cell? ⟨W5.heap.size, 3, none⟩ = some (.slice q.S sn2 q.cs)) := Lib.hid ⟨c2, v1, z0, z1, z2, z3⟩
        refine wp_region_C (fun w' => w'.cell? ⟨g, 2, none⟩ = some (.slice (some ⟨b, 0, none⟩) m a.cr) ∧ w'.cell? ⟨w.heap.size, 1, none⟩ = some (.int .i64 (k + 1)) ∧ w'.cell? ⟨W5.heap.size, 0, none⟩ = some (.slice q.A an2 q.ca) ∧ w'.cell? ⟨W5.heap.size, 1, none⟩ = some (.int .i64 st2) ∧ w'.cell? ⟨W5.heap.size, 2, none⟩ = some (.slice q.T tn2 q.ct) ∧ w'.cell? ⟨W5.heap.size, 3, none⟩ = some (.slice q.S sn2 q.cs)) 9 (by kernel_rfl) ?_
        have hS0 : (fun w' : World => w'.cell? ⟨g, 2, none⟩ = some (.slice (some ⟨b, 0, none⟩) m a.cr) ∧ w'.cell? ⟨w.heap.size, 1, none⟩ = some (.int .i64 (k + 1)) ∧ w'.cell? ⟨W5.heap.size, 0, none⟩ = some (.slice q.A an2 q.ca) ∧ w'.cell? ⟨W5.heap.size, 1, none⟩ = some (.int .i64 st2) ∧ w'.cell? ⟨W5.heap.size, 2, none⟩ = some (.slice q.T tn2 q.ct) ∧ w'.cell? ⟨W5.heap.size, 3, none⟩ = some (.slice q.S sn2 q.cs)) W7.drew := SE.out
        clear c2 v1 z0 z1 z2 z3
        refine takC 0 (h := ?_)
        try simp only [Act.put, List.setIfInBounds_toArray, List.set_cons_zero, List.set_cons_succ]
        refine takC 1 (h := ?_)
        try simp only [Act.put, List.setIfInBounds_toArray, List.set_cons_zero, List.set_cons_succ]
        refine takC 2 (h := ?_)
        try simp only [Act.put, List.setIfInBounds_toArray, List.set_cons_zero, List.set_cons_succ]
        refine takC 3 (h := ?_)
        try simp only [Act.put, List.setIfInBounds_toArray, List.set_cons_zero, List.set_cons_succ]
        refine takC 4 (h := ?_)
        try simp only [Act.put, List.setIfInBounds_toArray, List.set_cons_zero, List.set_cons_succ]
        refine takC 5 (h := ?_)
        try simp only [Act.put, List.setIfInBounds_toArray, List.set_cons_zero, List.set_cons_succ]
        refine takC 6 (h := ?_)
        try simp only [Act.put, List.setIfInBounds_toArray, List.set_cons_zero, List.set_cons_succ]
        refine takC 7 (h := ?_)
        try simp only [Act.put, List.setIfInBounds_toArray, List.set_cons_zero, List.set_cons_succ]
        have row5 := P7.out.runs
        rw [HA.out] at row5
        have ff := fun i => row5.thawed i
        have hf0 := ff (k * 4)
        have hf1 := ff (k * 4 + 1)
        have hf2 := ff (k * 4 + 2)
        have hf3 := ff (k * 4 + 3)
        obtain ⟨y0, y1, y2, y3⟩ := rsV_cells row5 HK.out
        clear ff row5
        refine wpAnyC_one (i := 8) (oi := ?o5) ?hi5 (by kernel_rfl) ?step5
        case hi5 => (simp only [List.getElem?_toArray, List.getElem?_cons_zero, List.getElem?_cons_succ]; exact rfl)
        intro K' hK
        go_simp
        refine hK.out _ _ ?_ (fun hHeld => ?_)
        · exact fun _ => SE.out
        clear hK K' hHeld
        try simp only [Act.put, List.setIfInBounds_toArray, List.set_cons_zero, List.set_cons_succ]
        refine wpAnyC_one (i := 9) (oi := ?o6) ?hi6 (by kernel_rfl) ?step6
        case hi6 => (simp only [List.getElem?_toArray, List.getElem?_cons_zero, List.getElem?_cons_succ]; exact rfl)
        intro K' hK
        go_simp
        refine hK.out _ _ ?_ (fun hHeld => ?_)
        · exact fun h => (by cases h)
        clear hK K' hHeld
        try simp only [Act.put, List.setIfInBounds_toArray, List.set_cons_zero, List.set_cons_succ]
        refine wpAnyC_done (by kernel_rfl) ?_ _
        clear hf0 hf1 hf2 hf3 y0 y1 y2 y3
        have ST : Hid (∃ a', FPM (RS W7.drew b k q an2 st2 tn2 sn2) g a' { s with runs := s.runs.modify k fun q => (x.1, q.2) } ∧ StepM g a a' w (RS W7.drew b k q an2 st2 tn2 sn2)) := Lib.hid (by
          have sz := B1.out.size
          obtain ⟨p6, q6⟩ := P7.out.drew.setRun HA.out HK.out (r := x.1) (p := q) (N := fun i => w2.heap.size ≤ i ∧ i < W5.heap.size) (O7.out.on (Below.refl _ _).drew) fun i hi => ⟨by have := YL.out; have := S7.out; have h2 : W7.drew.heap.size = W7.heap.size := rfl; omega, fun hm => by have := H.out.lt i (.inl hm); have := YL.out; omega⟩
          rw [RR.out.1, RR.out.2.1, RR.out.2.2.1, RR.out.2.2.2] at p6 q6
          refine ⟨_, p6, ⟨(Only.of (B1.out.trans (B7.out.drew.mono B1.out.size))).trans q6 fun i hi => .inl hi, fun i hi => .inl hi, fun i hi => ?_⟩⟩
          rcases hi with hi | hi
          · exact .inl hi
          · exact .inr (by have := YL.out; have := hi.1; omega))
        go_wp2
        rw [RS.lit]
        go_ret
        rw [RS'.out]
        exact ⟨by rw [R.out]; rfl, ST⟩
      · have hx2 : (er != 0) = true := by simpa using hx
        have RS' : Hid (s2 = s) := Lib.hid (by rw [VT.out, if_neg (by rw [V2.out]; exact hx)])
        clear hx
        go_wp2
        go_ret
        rw [RS'.out]
        exact ActG.same H.out (B1.out.trans (B7.out.mono B1.out.size)) V2.out.symm
    · skip
      intro K' hK
      go_simp
      refine hK.out _ _ ?_ (fun hHeld => ?_)
      · exact fun _ => SD.out _ (DB.out.alloc DB.out.size _)
      clear hK K' hHeld
      try simp only [Act.put, List.setIfInBounds_toArray, List.set_cons_zero, List.set_cons_succ]
      obtain ⟨W4, hW4⟩ : ∃ W4, W4 = (w2.alloc (.cells #[.slice none 0 0, .int .i64 0, .slice none 0 0, .slice none 0 0] 41)).drew := ⟨_, rfl⟩
      have YA : Hid (W4.heap[w2.heap.size]? = some (.cells #[.slice none 0 0, .int .i64 0, .slice none 0 0, .slice none 0 0] 41 (0, 0))) := Lib.hid (by rw [hW4]; exact heap_alloc_new _ _)
      have D4 : Hid (Below w1.heap.size w1 W4) := Lib.hid (by rw [hW4]; exact (B12.out.alloc B12.out.size _).drew)
      rw [← hW4]
      clear hW4
      refine wpAnyC_one (i := 14) (oi := ?o7) ?hi7 (by kernel_rfl) ?step7
      case hi7 => (simp only [List.getElem?_toArray, List.getElem?_cons_zero, List.getElem?_cons_succ]; exact rfl)
      intro K' hK
      (go_simp; go_at_call 62; (with_reducible refine (CU.out _ D4.out).mono ?_); rintro r5 W5 ⟨q, rfl, o5, b5⟩; have Q5 : Hid (Below w1.heap.size w1 W5) := Lib.hid (D4.out.trans (b5.out.mono D4.out.size)); try dsimp only)
      refine hK.out _ _ ?_ (fun hHeld => ?_)
      · exact fun _ => SD.out _ Q5.out
      clear hK K' hHeld
      try simp only [Act.put, List.setIfInBounds_toArray, List.set_cons_zero, List.set_cons_succ]
      have S5 := SD.out _ Q5.out
      refine takP [16] 15 (h := ?_)
      try simp only [Act.put, List.setIfInBounds_toArray, List.set_cons_zero, List.set_cons_succ]
      refine takC 16 (h := ?_)
      try simp only [Act.put, List.setIfInBounds_toArray, List.set_cons_zero, List.set_cons_succ]
      refine takA 17 (h := ?_)
      try simp only [Act.put, List.setIfInBounds_toArray, List.set_cons_zero, List.set_cons_succ]
      clear S5
      have YZ : Hid (W5.heap[w2.heap.size]? = some (.cells #[.slice none 0 0, .int .i64 0, .slice none 0 0, .slice none 0 0] 41 (0, 0))) := Lib.hid ((b5.out.block _ (lt_of_block YA.out)).trans YA.out)
      have BW := Q5
      have OW : Hid (RunO W5 (fun i => W4.heap.size ≤ i ∧ i < W5.heap.size) q x.1) := Lib.hid o5.out.here
      have YL : Hid (w1.heap.size ≤ w2.heap.size ∧ w.heap.size < w1.heap.size ∧ w1.heap.size ≤ W4.heap.size ∧ w2.heap.size < W4.heap.size) := Lib.hid ⟨B12.out.size, LX.out, D4.out.size, lt_of_block YA.out⟩
      have yz := obj4 YZ.out
      obtain ⟨⟨z0, z1, z2, z3⟩, f0, f1, f2, f3⟩ := yz
      refine wpAnyC_one (i := 19) (oi := ?o8) ?hi8 (by kernel_rfl) ?step8
      case hi8 => (simp only [List.getElem?_toArray, List.getElem?_cons_zero, List.getElem?_cons_succ]; exact rfl)
      intro K' hK
      go_simp
      refine hK.out _ _ ?_ (fun hHeld => ?_)
      · exact fun h => (by cases h)
      clear hK K' hHeld
      try simp only [Act.put, List.setIfInBounds_toArray, List.set_cons_zero, List.set_cons_succ]
      clear z0 z1 z2 z3 f0 f1 f2 f3
      obtain ⟨W7, hW7⟩ : ∃ W7, W7 = S4 W5 (w2.heap.size) (.slice q.A an2 q.ca) (.int .i64 st2) (.slice q.T tn2 q.ct) (.slice q.S sn2 q.cs) := ⟨_, rfl⟩
      have Y7 : Hid (W7.heap[w2.heap.size]? = some (.cells #[.slice q.A an2 q.ca, .int .i64 st2, .slice q.T tn2 q.ct, .slice q.S sn2 q.cs] 41 (0, 0))) := Lib.hid (by rw [hW7]; exact S4.at_ YZ.out _ _ _ _)
      have K7 : Hid (∀ i, i ≠ w2.heap.size → W7.heap[i]? = W5.heap[i]?) := Lib.hid fun i hi => by rw [hW7]; exact S4.else_ _ _ _ _ _ _ hi
      have S7 : Hid (W7.heap.size = W5.heap.size) := Lib.hid (by rw [hW7]; exact S4.size_ _ _ _ _ _ _)
      have B7 : Hid (Below w1.heap.size w1 W7) := Lib.hid (by rw [hW7]; exact S4.below BW.out YL.out.1 _ _ _ _)
      have O7 : Hid (RunO W7 (fun i => W4.heap.size ≤ i ∧ i < W5.heap.size) q x.1) := Lib.hid (OW.out.keep (Nat.le_of_eq S7.out.symm) fun i hi _ => K7.out i (by have := YL.out; have := hi.1; have := hi.2; omega))
      rw [S4.lit, ← hW7]
      clear hW7
      refine wpAnyC_one (i := 20) (oi := ?o9) ?hi9 (by kernel_rfl) ?step9
      case hi9 => (simp only [List.getElem?_toArray, List.getElem?_cons_zero, List.getElem?_cons_succ]; exact rfl)
      intro K' hK
      go_simp
      refine hK.out _ _ ?_ (fun hHeld => ?_)
      · exact fun h => (by cases h)
      clear hK K' hHeld
      try simp only [Act.put, List.setIfInBounds_toArray, List.set_cons_zero, List.set_cons_succ]
      refine wpAnyC_done (by kernel_rfl) ?_ _
      by_cases hx : er = 0
      · subst hx
        have R : Hid (v = 0) := V2
        have RS' : Hid (s2 = { s with runs := s.runs.modify k fun q => (x.1, q.2) }) := Lib.hid (by rw [VT.out, if_pos R.out])
        have c2 := (SD.out _ B7.out).2.1
        have v1 := (SD.out _ B7.out).2.2.2.2.1
        obtain ⟨⟨z0, z1, z2, z3⟩, -⟩ := obj4 Y7.out
        have P7 := Lib.hid (H1.out.on B7.out)
        go_upto_region 6 with (fail)
        have SE : Hid (W7.drew.cell? ⟨g, 2, none⟩ = some (.slice (some ⟨b, 0, none⟩) m a.cr) ∧ W7.drew.cell? ⟨w.heap.size, 1, none⟩ = some (.int .i64 (k + 1)) ∧ W7.drew.cell? ⟨w2.heap.size, 0, none⟩ = some (.slice q.A an2 q.ca) ∧ W7.drew.cell? ⟨w2.heap.size, 1, none⟩ = some (.int .i64 st2) ∧ W7.drew.cell? ⟨w2.heap.size, 2, none⟩ = some (.slice q.T tn2 q.ct) ∧ W7.drew.cell? ⟨w2.heap.size, 3, none⟩ = some (.slice q.S sn2 q.cs)) := Lib.hid ⟨c2, v1, z0, z1, z2, z3⟩
        refine wp_region_C (fun w' => w'.cell? ⟨g, 2, none⟩ = some (.slice (some ⟨b, 0, none⟩) m a.cr) ∧ w'.cell? ⟨w.heap.size, 1, none⟩ = some (.int .i64 (k + 1)) ∧ w'.cell? ⟨w2.heap.size, 0, none⟩ = some (.slice q.A an2 q.ca) ∧ w'.cell? ⟨w2.heap.size, 1, none⟩ = some (.int .i64 st2) ∧ w'.cell? ⟨w2.heap.size, 2, none⟩ = some (.slice q.T tn2 q.ct) ∧ w'.cell? ⟨w2.heap.size, 3, none⟩ = some (.slice q.S sn2 q.cs)) 9 (by kernel_rfl) ?_
        have hS0 : (fun w' : World => w'.cell? ⟨g, 2, none⟩ = some (.slice (some ⟨b, 0, none⟩) m a.cr) ∧ w'.cell? ⟨w.heap.size, 1, none⟩ = some (.int .i64 (k + 1)) ∧ w'.cell? ⟨w2.heap.size, 0, none⟩ = some (.slice q.A an2 q.ca) ∧ w'.cell? ⟨w2.heap.size, 1, none⟩ = some (.int .i64 st2) ∧ w'.cell? ⟨w2.heap.size, 2, none⟩ = some (.slice q.T tn2 q.ct) ∧ w'.cell? ⟨w2.heap.size, 3, none⟩ = some (.slice q.S sn2 q.cs)) W7.drew := SE.out
        clear c2 v1 z0 z1 z2 z3
        refine takC 0 (h := ?_)
        try simp only [Act.put, List.setIfInBounds_toArray, List.set_cons_zero, List.set_cons_succ]
        refine takC 1 (h := ?_)
        try simp only [Act.put, List.setIfInBounds_toArray, List.set_cons_zero, List.set_cons_succ]
        refine takC 2 (h := ?_)
        try simp only [Act.put, List.setIfInBounds_toArray, List.set_cons_zero, List.set_cons_succ]
        refine takC 3 (h := ?_)
        try simp only [Act.put, List.setIfInBounds_toArray, List.set_cons_zero, List.set_cons_succ]
        refine takC 4 (h := ?_)
        try simp only [Act.put, List.setIfInBounds_toArray, List.set_cons_zero, List.set_cons_succ]
        refine takC 5 (h := ?_)
        try simp only [Act.put, List.setIfInBounds_toArray, List.set_cons_zero, List.set_cons_succ]
        refine takC 6 (h := ?_)
        try simp only [Act.put, List.setIfInBounds_toArray, List.set_cons_zero, List.set_cons_succ]
        refine takC 7 (h := ?_)
        try simp only [Act.put, List.setIfInBounds_toArray, List.set_cons_zero, List.set_cons_succ]
        have row5 := P7.out.runs
        rw [HA.out] at row5
        have ff := fun i => row5.thawed i
        have hf0 := ff (k * 4)
        have hf1 := ff (k * 4 + 1)
        have hf2 := ff (k * 4 + 2)
        have hf3 := ff (k * 4 + 3)
        obtain ⟨y0, y1, y2, y3⟩ := rsV_cells row5 HK.out
        clear ff row5
        refine wpAnyC_one (i := 8) (oi := ?o10) ?hi10 (by kernel_rfl) ?step10
        case hi10 => (simp only [List.getElem?_toArray, List.getElem?_cons_zero, List.getElem?_cons_succ]; exact rfl)
        intro K' hK
        go_simp
        refine hK.out _ _ ?_ (fun hHeld => ?_)
        · exact fun _ => SE.out
        clear hK K' hHeld
        try simp only [Act.put, List.setIfInBounds_toArray, List.set_cons_zero, List.set_cons_succ]
        refine wpAnyC_one (i := 9) (oi := ?o11) ?hi11 (by kernel_rfl) ?step11
        case hi11 => (simp only [List.getElem?_toArray, List.getElem?_cons_zero, List.getElem?_cons_succ]; exact rfl)
        intro K' hK
        go_simp
        refine hK.out _ _ ?_ (fun hHeld => ?_)
        · exact fun h => (by cases h)
        clear hK K' hHeld
        try simp only [Act.put, List.setIfInBounds_toArray, List.set_cons_zero, List.set_cons_succ]
        refine wpAnyC_done (by kernel_rfl) ?_ _
        clear hf0 hf1 hf2 hf3 y0 y1 y2 y3
        have ST : Hid (∃ a', FPM (RS W7.drew b k q an2 st2 tn2 sn2) g a' { s with runs := s.runs.modify k fun q => (x.1, q.2) } ∧ StepM g a a' w (RS W7.drew b k q an2 st2 tn2 sn2)) := Lib.hid (by
          have sz := B1.out.size
          obtain ⟨p6, q6⟩ := P7.out.drew.setRun HA.out HK.out (r := x.1) (p := q) (N := fun i => W4.heap.size ≤ i ∧ i < W5.heap.size) (O7.out.on (Below.refl _ _).drew) fun i hi => ⟨by have := YL.out; have := S7.out; have h2 : W7.drew.heap.size = W7.heap.size := rfl; omega, fun hm => by have := H.out.lt i (.inl hm); have := YL.out; omega⟩
          rw [RR.out.1, RR.out.2.1, RR.out.2.2.1, RR.out.2.2.2] at p6 q6
          refine ⟨_, p6, ⟨(Only.of (B1.out.trans (B7.out.drew.mono B1.out.size))).trans q6 fun i hi => .inl hi, fun i hi => .inl hi, fun i hi => ?_⟩⟩
          rcases hi with hi | hi
          · exact .inl hi
          · exact .inr (by have := YL.out; have := hi.1; omega))
        go_wp2
        rw [RS.lit]
        go_ret
        rw [RS'.out]
        exact ⟨by rw [R.out]; rfl, ST⟩
      · have hx2 : (er != 0) = true := by simpa using hx
        have RS' : Hid (s2 = s) := Lib.hid (by rw [VT.out, if_neg (by rw [V2.out]; exact hx)])
        clear hx
        go_wp2
        go_ret
        rw [RS'.out]
        exact ActG.same H.out (B1.out.trans (B7.out.mono B1.out.size)) V2.out.symm
end Go.Proofs.YtkbekojnmdgdgaaGreatDoor
/- FlApply -/
namespace Go.Proofs.YtkbekojnmdgdgaaGreatDoor
open Go.RowKit Go.Maps
set_option maxRecDepth 20000
theorem ActG.ahead {w W w' : World} {g : Nat} {a : FAt} {x : Int} {s' : Fw.S} {r : Ending} (hb : Below w.heap.size w W) (h : ActG W g a x s' r w') : ActG w g a x s' r w' := by
  obtain ⟨h1, h2⟩ := h
  refine ⟨h1, Lib.hid ?_⟩
  obtain ⟨a', p, q⟩ := h2.out
  exact ⟨a', p, StepM.ahead hb q⟩
set_option maxHeartbeats 2000000 in
theorem apply_any {w : World} {g : Nat} {a : FAt} {s : Fw.S} (h : FPM w g a s) (hI : Fw.Inv s) (hF : FactsE w) (e : Ev.E) (he : EvIn e) :
    Calls Tryz.prog 11 #[.pointer (some ⟨g, 0, none⟩), .agg (evc e)] w (ActG w g a (Fw.err s e) (Fw.step s e)) := by
  obtain ⟨w1, hw1⟩ : ∃ w1, w1 = w.alloc (.cells (evc e) 28) := ⟨_, rfl⟩
  have B1 : Hid (Below w.heap.size w w1) := Lib.hid (by rw [hw1]; exact (Below.refl _ _).alloc (Nat.le_refl _) _)
  have X1 : Hid (w1.heap[w.heap.size]? = some (.cells (evc e) 28 (0, 0))) := Lib.hid (by rw [hw1]; exact evBox _ _ _)
  have CG := Lib.hid (good_p e he w1 (hF.on B1.out).s)
  have C1 := Lib.hid (fun W (hW : Below w.heap.size w W) => define_any (h.on hW) (hF.on hW) e he)
  have C2 := Lib.hid (fun W (hW : Below w.heap.size w W) => start_any (h.on hW) hI (hF.on hW) e he)
  have C3 := Lib.hid (fun W (hW : Below w.heap.size w W) (hg : Ev.Good e) => tick_any (h.on hW) hI e.n hg.fits.n.1 (by have := hg.fits.n.2; unfold Rn.tickMax; omega))
  have C4 := Lib.hid (fun W (hW : Below w.heap.size w W) (hg : Ev.Good e) (h1 : 1 ≤ e.run) => change_any (h.on hW) hI e he h1 (by have := hg.fits.a; omega) (by have := hg.fits.d; omega))
  have H := Lib.hid h
  have GD : Hid (Ev.good e = true → Ev.Good e) := Lib.hid Ev.good_iff.1
  have V : Hid (Fw.err s e = if Ev.good e = true then (if e.kind = 1 then Fw.defineE s e else if e.kind = 2 then Fw.startE s e else if e.kind = 6 then (if e.n ≤ s.clock then 10 else 0) else if e.kind = 9 then 0 else Fw.actE s e) else 1) := Lib.hid rfl
  have VS : Hid (Fw.step s e = if Fw.err s e = 0 then (if e.kind = 1 then Fw.defineS s e else if e.kind = 2 then Fw.startS s e else if e.kind = 6 then Fw.tickS s e.n else if e.kind = 9 then s else Fw.actS s e) else s) := Lib.hid rfl
  have R1 : Hid (∀ (hg : Ev.Good e), e.kind ≠ 1 → e.kind ≠ 2 → e.kind ≠ 6 → e.kind ≠ 9 → 1 ≤ e.run) := Lib.hid fun hG k1 k2 k6 k9 => by
    have hk := hG.kind
    have hc : e.kind = 3 ∨ e.kind = 4 ∨ e.kind = 5 ∨ e.kind = 7 ∨ e.kind = 8 := by omega
    have hw := Ev.within_in hG.run
    rcases hw with ⟨_, h1, _⟩ | ⟨h1, _⟩
    · exact h1
    · rcases hc with hc | hc | hc | hc | hc <;> rw [hc] at h1 <;> exact absurd h1 (by decide)
  obtain ⟨v0, v1, v2, v3, v4, v5, v6, v7⟩ := ev8 X1.out
  generalize Fw.err s e = v at *
  generalize Fw.step s e = s2 at *
  clear h hI hF he
  obtain ⟨b, hb⟩ : ∃ b, b = Ev.good e := ⟨_, rfl⟩
  rw [← hb] at CG V GD
  clear hb
  unfold evc at hw1 CG C1 C2 C4 ⊢
  go_enter Tryz.func11, Tryz.ntmps11
  go_upto_region 1 with (fail)
  rw [← hw1]
  clear hw1
  go_wp2_with fail
  refine CG.out.mono ?_; rintro r w2 ⟨rfl, b2⟩
  have B2 : Hid (Below w.heap.size w w2) := Lib.hid (B1.out.trans (b2.mono B1.out.size))
  have X2 := (b2.block _ (lt_of_block X1.out)).trans X1.out
  clear v0 v1 v2 v3 v4 v5 v6 v7 CG X1 B1 b2
  cases b with
  | false =>
    have R : Hid (v = 1) := Lib.hid (by rw [V.out, if_neg (by decide)])
    have RS' : Hid (s2 = s) := Lib.hid (by rw [VS.out, if_neg (by rw [R.out]; decide)])
    clear V VS C1 C2 C3 C4 X2
    go_wp2
    go_ret
    rw [RS'.out]
    exact ActG.same H.out B2.out R.out.symm
  | true =>
    have G := Lib.hid (GD.out rfl)
    obtain ⟨v0, v1, v2, v3, v4, v5, v6, v7⟩ := ev8 X2
    clear X2
    by_cases k1 : e.kind = 1
    · have R : Hid (v = Fw.defineE s e) := Lib.hid (by rw [V.out, if_pos rfl, if_pos k1])
      have RS' : Hid (s2 = Fw.defS s e) := Lib.hid (by rw [VS.out, if_pos k1, R.out]; rfl)
      have CC := Lib.hid (C1.out w2 B2.out)
      rw [← R.out, ← RS'.out] at CC
      clear V VS C1 C2 C3 C4 R RS' R1
      rw [k1] at v0 CC
      clear k1
      go_wp2_with fail
      refine (CC.out).mono ?_; rintro r w3 h3
      have A3 := Lib.hid (h3.ahead B2.out)
      obtain ⟨rfl, -⟩ := h3
      go_wp2
      go_ret
      exact ⟨rfl, A3.out.2⟩
    have n1 : (e.kind == 1) = false := by simpa using k1
    by_cases k2 : e.kind = 2
    · have R : Hid (v = Fw.startE s e) := Lib.hid (by rw [V.out, if_pos rfl, if_neg k1, if_pos k2])
      have RS' : Hid (s2 = Fw.staS s e) := Lib.hid (by rw [VS.out, if_neg k1, if_pos k2, R.out]; rfl)
      have CC := Lib.hid (C2.out w2 B2.out)
      rw [← R.out, ← RS'.out] at CC
      clear V VS C1 C2 C3 C4 R RS' R1 n1 k1
      rw [k2] at v0 CC
      clear k2
      go_wp2_with fail
      refine (CC.out).mono ?_; rintro r w3 h3
      have A3 := Lib.hid (h3.ahead B2.out)
      obtain ⟨rfl, -⟩ := h3
      go_wp2
      go_ret
      exact ⟨rfl, A3.out.2⟩
    have n2 : (e.kind == 2) = false := by simpa using k2
    by_cases k6 : e.kind = 6
    · have R : Hid (v = if e.n ≤ s.clock then 10 else 0) := Lib.hid (by rw [V.out, if_pos rfl, if_neg k1, if_neg k2, if_pos k6])
      have RS' : Hid (s2 = if e.n ≤ s.clock then s else Fw.tickS s e.n) := Lib.hid (by
        rw [VS.out, R.out, if_neg k1, if_neg k2, if_pos k6]
        by_cases hc : e.n ≤ s.clock
        · rw [if_pos hc, if_pos hc, if_neg (by decide)]
        · rw [if_neg hc, if_neg hc, if_pos rfl])
      have CC := Lib.hid (C3.out w2 B2.out G.out)
      rw [← R.out, ← RS'.out] at CC
      clear V VS C1 C2 C3 C4 R RS' R1 n1 n2 k1 k2
      rw [k6] at v0
      clear k6
      go_wp2_with fail
      refine (CC.out).mono ?_; rintro r w3 h3
      have A3 := Lib.hid (h3.ahead B2.out)
      obtain ⟨rfl, -⟩ := h3
      go_wp2
      go_ret
      exact ⟨rfl, A3.out.2⟩
    have n6 : (e.kind == 6) = false := by simpa using k6
    by_cases k9 : e.kind = 9
    · have R : Hid (v = 0) := Lib.hid (by rw [V.out, if_pos rfl, if_neg k1, if_neg k2, if_neg k6, if_pos k9])
      have RS' : Hid (s2 = s) := Lib.hid (by rw [VS.out, if_neg k1, if_neg k2, if_neg k6, if_pos k9, if_pos R.out])
      clear V VS C1 C2 C3 C4 R1 n1 n2 n6 k1 k2 k6
      rw [k9] at v0
      clear k9
      go_wp2
      go_ret
      rw [RS'.out]
      exact ActG.same H.out B2.out R.out.symm
    have n9 : (e.kind == 9) = false := by simpa using k9
    have R : Hid (v = Fw.actE s e) := Lib.hid (by rw [V.out, if_pos rfl, if_neg k1, if_neg k2, if_neg k6, if_neg k9])
    have RS' : Hid (s2 = Fw.actT s e) := Lib.hid (by rw [VS.out, if_neg k1, if_neg k2, if_neg k6, if_neg k9, R.out]; rfl)
    have CC := Lib.hid (C4.out w2 B2.out G.out (R1.out G.out k1 k2 k6 k9))
    rw [← R.out, ← RS'.out] at CC
    clear V VS C1 C2 C3 C4 R RS' R1 k1 k2 k6 k9
    go_wp2_with fail
    refine (CC.out).mono ?_; rintro r w3 h3
    have A3 := Lib.hid (h3.ahead B2.out)
    obtain ⟨rfl, -⟩ := h3
    go_wp2
    go_ret
    exact ⟨rfl, A3.out.2⟩
end Go.Proofs.YtkbekojnmdgdgaaGreatDoor
/- FlAll -/
namespace Go.Proofs.YtkbekojnmdgdgaaGreatDoor
open Go.RowKit Go.Maps
set_option maxRecDepth 20000
def MadeF (w : World) (g : Nat) (s : Fw.S) (wr : World) : Prop := ∃ a, FPM wr g a s ∧ (∀ i, mine g a i ∨ a.Q i → w.heap.size ≤ i) ∧ Below w.heap.size w wr
theorem MadeF.step {w wr W : World} {g : Nat} {s s' : Fw.S} {a a' : FAt} (_h : FPM wr g a s) (hm : ∀ i, mine g a i ∨ a.Q i → w.heap.size ≤ i) (hb : Below w.heap.size w wr) (p : FPM W g a' s') (q : StepM g a a' wr W) : MadeF w g s' W := by
  refine ⟨a', p, fun i hi => ?_, hb.trans (q.only.below hb.size fun k hk => hm k (.inl hk))⟩
  rcases hi with hi | hi
  · rcases q.m i hi with h1 | h1
    · exact hm i (.inl h1)
    · exact Nat.le_trans hb.size h1
  · rcases q.q i hi with h1 | h1
    · exact hm i (.inr h1)
    · exact Nat.le_trans hb.size h1
set_option maxHeartbeats 2000000 in
theorem flowAll_any (l : List Ev.E) (A : Option Addr) (c : Nat) (w : World) (hF : FactsE w) (hA : EvsR w w.heap.size A l) (hl : l.length ≤ c) (h9 : l.length ≤ 1000) :
    Calls Tryz.prog 17 #[.slice A l.length c] w fun e w' => ∃ g M R, e = .returned (.pointer (some ⟨g, 0, none⟩)) ∧ FP w' g M R (Fw.all l) ∧ (∀ i, R i → w.heap.size ≤ i) ∧ Below w.heap.size w w' := by
  have CN := Lib.hid (flowNew_any w)
  have HF := Lib.hid hF
  have HA := Lib.hid hA
  obtain ⟨m, hm⟩ : ∃ m, m = l.length := ⟨_, rfl⟩
  have HM := Lib.hid hm
  rw [← hm] at h9 ⊢
  clear hF hA hl hm
  go_enter Tryz.func17, Tryz.ntmps17
  go_wp2_with fail
  refine CN.out.mono ?_; rintro e w1 ⟨g, M, R, rfl, ⟨a, hp, hM, hR⟩, hr, hb⟩
  have I0 : Hid (MadeF w g (Fw.all (l.take 0)) w1) := Lib.hid ⟨a, hp, fun i hi => hr i ((hR i).2 hi), hb⟩
  clear hp hM hR hr hb CN
  go_wp2_with fail
  go_loopw [9] (fun iv wr => ∃ k : Nat, k ≤ m ∧ iv = .int .i64 k ∧ Hid (MadeF w g (Fw.all (l.take k)) wr)) (fun iv _ => m - (intOf iv).toNat)
  case atStart => exact ⟨0, Nat.zero_le _, rfl, I0⟩
  case round =>
    obtain ⟨k, hk, rfl, HI⟩ := hrel
    by_cases hlt : k < m
    · have hlt' : (k : Int) < (m : Int) := by omega
      have HK : Hid (k < l.length) := Lib.hid (by rw [← HM.out]; exact hlt)
      obtain ⟨a', p', mk, bw⟩ := HI.out
      have P := Lib.hid p'
      have MK := Lib.hid mk
      have BW := Lib.hid bw
      obtain ⟨b, off, kd, ru, ta, tr, nn, na, ke, da, hA, hlb, he, hin, e0, e1, e2, e3, e4, e5, e6, e7⟩ := ((HA.out.below bw).more bw.size).ev HK.out
      have INV : Hid (Fw.Inv (Fw.all (l.take k))) := Lib.hid (Fw.inv_all _ _ Fw.inv_new)
      have NX : Hid (Fw.step (Fw.all (l.take k)) ⟨kd, ru, ta, tr, nn, na, ke, da⟩ = Fw.all (l.take (k + 1))) := Lib.hid (by
        obtain ⟨h1, h2⟩ := List.getElem?_eq_some_iff.1 he.out
        rw [List.take_succ_eq_append_getElem h1, h2]
        unfold Fw.all
        rw [List.foldl_append]
        rfl)
      obtain ⟨w2, hw2⟩ : ∃ w2, w2 = wr.alloc (.cells (evc ⟨kd, ru, ta, tr, nn, na, ke, da⟩) 28) := ⟨_, rfl⟩
      have B2 : Hid (Below wr.heap.size wr w2) := Lib.hid (by rw [hw2]; exact (Below.refl _ _).alloc (Nat.le_refl _) _)
      have X2 : Hid (w2.heap[wr.heap.size]? = some (.cells (evc ⟨kd, ru, ta, tr, nn, na, ke, da⟩) 28 (0, 0))) := Lib.hid (by rw [hw2]; exact evBox _ _ _)
      have AP := Lib.hid (apply_any (P.out.on B2.out) INV.out ((HF.out.on bw).on B2.out) ⟨kd, ru, ta, tr, nn, na, ke, da⟩ hin.out)
      rw [NX.out] at AP
      generalize Fw.err (Fw.all (l.take k)) ⟨kd, ru, ta, tr, nn, na, ke, da⟩ = er at *
      obtain ⟨s2, hs2⟩ : ∃ s2, s2 = Fw.all (l.take (k + 1)) := ⟨_, rfl⟩
      have S2 := Lib.hid hs2
      rw [← hs2] at AP
      clear hs2
      subst hA
      clear p' mk bw hlb he hin HI NX
      unfold evc at AP hw2
      dsimp only at AP hw2
      go_upto_region 5 with (fail)
      rw [← hw2]
      clear hw2 e0 e1 e2 e3 e4 e5 e6 e7
      obtain ⟨v0, v1, v2, v3, v4, v5, v6, v7⟩ := ev8 X2.out
      dsimp only at v0 v1 v2 v3 v4 v5 v6 v7
      go_wp2_with fail
      refine (AP.out).mono ?_; rintro r w3 h3
      have I3 : Hid (MadeF w g s2 w3) := Lib.hid (by
        obtain ⟨a2, p2, q2⟩ := (h3.ahead B2.out).2.out
        exact MadeF.step P.out MK.out BW.out p2 q2)
      obtain ⟨rfl, -⟩ := h3
      clear v0 v1 v2 v3 v4 v5 v6 v7 AP
      go_wp2
      go_roundw
      case rel => exact ⟨k + 1, by omega, by go_num, by rw [← S2.out]; exact I3⟩
      case measure => simp [intOf]; omega
    · obtain rfl : k = m := by omega
      have hge : ¬ (k : Int) < (k : Int) := by omega
      go_wp2
      go_ret
      obtain ⟨a', p', mk, bw⟩ := HI.out
      rw [HM.out, List.take_length] at p'
      exact ⟨g, rfl, mine g a', fun i => mine g a' i ∨ a'.Q i, p'.fp, mk, bw⟩
end Go.Proofs.YtkbekojnmdgdgaaGreatDoor
/- FlProg -/
namespace Go.Proofs.YtkbekojnmdgdgaaGreatDoor
open Go.RowKit
theorem flowApply_any (g : Nat) (M R : Nat → Prop) (s : Fw.S) (e : Ev.E) (w : World) (hF : FactsE w) (h : FP w g M R s) (hI : Fw.Inv s) (he : EvIn e) :
    Calls Tryz.prog 11 #[.pointer (some ⟨g, 0, none⟩), .agg (evc e)] w fun r w' => r = .returned (.int .i64 (Fw.err s e)) ∧ ∃ M2 R2, FP w' g M2 R2 (Fw.step s e) ∧ FStep M R M2 R2 w w' := by
  obtain ⟨a, h, hm, hr⟩ := h
  refine (apply_any h hI hF e he).mono ?_
  rintro r w' ⟨rfl, h2⟩
  obtain ⟨a', p, q⟩ := h2.out
  exact ⟨rfl, _, _, p.fp, q.step hm hr⟩
theorem flowLen_any (g : Nat) (M R : Nat → Prop) (s : Fw.S) (w : World) (h : FP w g M R s) :
    Calls Tryz.prog 20 #[.pointer (some ⟨g, 0, none⟩)] w fun e w' => e = .returned (.int .i64 (s.runs.length : Int)) ∧ Hid (Below w.heap.size w w') := by
  obtain ⟨a, h, -, -⟩ := h
  exact len_any h
theorem flowKey_any (g : Nat) (M R : Nat → Prop) (s : Fw.S) (w : World) (h : FP w g M R s) (hI : Fw.Inv s) (n k : ByteArray) (hx : Ky.okk n k) :
    Calls Tryz.prog 14 #[.pointer (some ⟨g, 0, none⟩), .string n, .string k] w fun e w' => e = .returned (.tuple #[.int .i64 (Ky.getV (Fw.ks s) n k), .bool (Ky.getB (Fw.ks s) n k)]) ∧ Hid (Below w.heap.size w w') := by
  obtain ⟨a, h, -, -⟩ := h
  exact key_any h hI.ki n k hx
theorem flowFirst_any (g : Nat) (M R : Nat → Prop) (s : Fw.S) (w : World) (h : FP w g M R s) (hI : Fw.Inv s) :
    Calls Tryz.prog 13 #[.pointer (some ⟨g, 0, none⟩)] w fun e w' => e = .returned (.tuple #[.int .i64 (Fw.firstV s).1, .int .i64 (Fw.firstV s).2.1, .int .i64 (Fw.firstV s).2.2.1, .bool (Fw.firstV s).2.2.2]) ∧ Hid (Below w.heap.size w w') := by
  obtain ⟨a, h, -, -⟩ := h
  exact first_any h hI
end Go.Proofs.YtkbekojnmdgdgaaGreatDoor
/- FlOne -/
namespace Go.Proofs.YtkbekojnmdgdgaaGreatDoor
open Go.RowKit
def KeptF (G : Nat → Prop) (w w' : World) : Prop := w.heap.size ≤ w'.heap.size ∧ ∀ k, G k → w'.heap[k]? = w.heap[k]?
def noF (_ : Nat) : Prop := False
structure FOne (w0 w : World) (T : Nat) (s : Fw.S) (G : Nat → Prop) : Prop where
  mem : ∃ M R, FP w T M R s ∧ (∀ k, R k → w0.heap.size ≤ k) ∧ ∀ k, G k → ¬ M k
  below : Below w0.heap.size w0 w
  inv : Fw.Inv s
  gone : ∀ k, G k → k < w.heap.size
  facts : FactsE w0
section
variable {w0 w w' : World} {T : Nat} {s s' : Fw.S} {G G' : Nat → Prop}
theorem FOne.fe (h : FOne w0 w T s G) : FactsE w := h.facts.on h.below
theorem FOne.kept (h : FOne w0 w T s G) (hb : Below w.heap.size w w') : KeptF G w w' := ⟨hb.size, fun k hk => hb.block k (h.gone k hk)⟩
theorem FOne.join (h : FOne w0 w T s G) (hb : Below w.heap.size w w') (hs : ∀ k, G' k → G k ∨ (w.heap.size ≤ k ∧ k < w'.heap.size)) : FOne w0 w' T s G' := by
  obtain ⟨M, R, p, h1, h2⟩ := h.mem
  refine ⟨⟨M, R, p.keep hb.size fun i hi => hb.block i (p.lt i hi), h1, fun k hk hm => ?_⟩, h.below.trans (hb.mono h.below.size), h.inv, fun k hk => ?_, h.facts⟩
  · rcases hs k hk with h3 | h3
    · exact h2 k h3 hm
    · have := p.lt k (p.sub k hm); omega
  · rcases hs k hk with h3 | h3
    · exact Nat.lt_of_lt_of_le (h.gone k h3) hb.size
    · exact h3.2
theorem FOne.on (h : FOne w0 w T s G) (hb : Below w.heap.size w w') : FOne w0 w' T s G := h.join hb fun _ h => .inl h
theorem fNew (w : World) (hF : FactsE w) : Calls Tryz.prog 10 #[] w fun e w' => ∃ T, e = .returned (.pointer (some ⟨T, 0, none⟩)) ∧ Hid (FOne w w' T Fw.new noF) ∧ Hid (Below w.heap.size w w') :=
  (flowNew_any w).mono fun _ _ ⟨g, M, R, h1, h2, h3, h4⟩ => ⟨g, h1, Lib.hid ⟨⟨M, R, h2, h3, fun _ h => h.elim⟩, h4, Fw.inv_new, fun _ h => h.elim, hF⟩, Lib.hid h4⟩
theorem fAll (l : List Ev.E) (A : Option Addr) (c : Nat) (w : World) (hF : FactsE w) (hA : EvsR w w.heap.size A l) (hl : l.length ≤ c) (h9 : l.length ≤ 1000) {n : Nat} (hn : l.length = n) :
    Calls Tryz.prog 17 #[.slice A n c] w fun e w' => ∃ T, e = .returned (.pointer (some ⟨T, 0, none⟩)) ∧ Hid (FOne w w' T (Fw.all l) noF) ∧ Hid (Below w.heap.size w w') := by
  subst hn
  exact (flowAll_any l A c w hF hA hl h9).mono fun _ _ ⟨g, M, R, h1, h2, h3, h4⟩ => ⟨g, h1, Lib.hid ⟨⟨M, R, h2, h3, fun _ h => h.elim⟩, h4, Fw.inv_all l _ Fw.inv_new, fun _ h => h.elim, hF⟩, Lib.hid h4⟩
theorem fApply (h : FOne w0 w T s G) (e : Ev.E) (he : EvIn e) : Calls Tryz.prog 11 #[.pointer (some ⟨T, 0, none⟩), .agg (evc e)] w fun r w' => r = .returned (.int .i64 (Fw.err s e)) ∧ Hid (FOne w0 w' T (Fw.step s e) G) ∧ Hid (KeptF G w w') := by
  obtain ⟨M, R, p, h1, h2⟩ := h.mem
  refine (flowApply_any T M R s e w h.fe p h.inv he).mono ?_
  rintro r w' ⟨rfl, M2, R2, p2, st⟩
  have hk : KeptF G w w' := ⟨st.only.size, fun k hk => st.only.block k (h.gone k hk) (h2 k hk)⟩
  refine ⟨rfl, Lib.hid ⟨⟨M2, R2, p2, fun k hk => ?_, fun k hk hm => ?_⟩, h.below.trans (st.only.below h.below.size fun k hk => h1 k (p.sub k hk)), h.inv.step e, fun k hk => Nat.lt_of_lt_of_le (h.gone k hk) st.only.size, h.facts⟩, Lib.hid hk⟩
  · rcases st.r k hk with h3 | h3
    · exact h1 k h3
    · exact Nat.le_trans h.below.size h3
  · rcases st.m k hm with h3 | h3
    · exact h2 k hk h3
    · have := h.gone k hk; omega
theorem fApply' (h : FOne w0 w T s G) (e : Ev.E) (he : EvIn e) {x : Int} (hx : Fw.err s e = x) (hs : Fw.step s e = s') :
    Calls Tryz.prog 11 #[.pointer (some ⟨T, 0, none⟩), .agg (evc e)] w fun r w' => r = .returned (.int .i64 x) ∧ Hid (FOne w0 w' T s' G) ∧ Hid (KeptF G w w') := by
  subst hx hs
  exact fApply h e he
theorem fLen (h : FOne w0 w T s G) {n : Int} (hn : (s.runs.length : Int) = n) : Calls Tryz.prog 20 #[.pointer (some ⟨T, 0, none⟩)] w fun e w' => e = .returned (.int .i64 n) ∧ Hid (FOne w0 w' T s G) ∧ Hid (KeptF G w w') := by
  obtain ⟨M, R, p, h1, h2⟩ := h.mem
  subst hn
  exact (flowLen_any T M R s w p).mono fun e w' ⟨h6, h7⟩ => ⟨h6, Lib.hid (h.on h7.out), Lib.hid (h.kept h7.out)⟩
theorem fFirst (h : FOne w0 w T s G) {a b c : Int} {d : Bool} (hv : Fw.firstV s = (a, b, c, d)) : Calls Tryz.prog 13 #[.pointer (some ⟨T, 0, none⟩)] w fun e w' => e = .returned (.tuple #[.int .i64 a, .int .i64 b, .int .i64 c, .bool d]) ∧ Hid (FOne w0 w' T s G) ∧ Hid (KeptF G w w') := by
  obtain ⟨M, R, p, h1, h2⟩ := h.mem
  have := flowFirst_any T M R s w p h.inv
  rw [hv] at this
  exact this.mono fun e w' ⟨h6, h7⟩ => ⟨h6, Lib.hid (h.on h7.out), Lib.hid (h.kept h7.out)⟩
theorem fKey (h : FOne w0 w T s G) (n k : ByteArray) (hx : Ky.okk n k) {v : Int} {b : Bool} (hv : Ky.getV (Fw.ks s) n k = v) (hb : Ky.getB (Fw.ks s) n k = b) :
    Calls Tryz.prog 14 #[.pointer (some ⟨T, 0, none⟩), .string n, .string k] w fun e w' => e = .returned (.tuple #[.int .i64 v, .bool b]) ∧ Hid (FOne w0 w' T s G) ∧ Hid (KeptF G w w') := by
  obtain ⟨M, R, p, h1, h2⟩ := h.mem
  subst hv hb
  exact (flowKey_any T M R s w p h.inv n k hx).mono fun e w' ⟨h6, h7⟩ => ⟨h6, Lib.hid (h.on h7.out), Lib.hid (h.kept h7.out)⟩
end
end Go.Proofs.YtkbekojnmdgdgaaGreatDoor
/- FlAwake -/
namespace Go.Proofs.YtkbekojnmdgdgaaGreatDoor
open Go.RowKit
set_option maxRecDepth 20000
theorem EvIn.few {k r t y n : Int} (hk : 0 ≤ k ∧ k ≤ 100) (hr : 0 ≤ r ∧ r ≤ 100) (ht : 0 ≤ t ∧ t ≤ 100) (hy : 0 ≤ y ∧ y ≤ 100) (hn : 0 ≤ n ∧ n ≤ 4398046511104) {na ke da : ByteArray} (h1 : na.size ≤ 1000) (h2 : ke.size ≤ 1000) (h3 : da.size ≤ 1000) : EvIn ⟨k, r, t, y, n, na, ke, da⟩ :=
  ⟨⟨by show _ ≤ k; omega, by show k ≤ _; omega⟩, ⟨by show _ ≤ r; omega, by show r ≤ _; omega⟩, ⟨by show _ ≤ t; omega, by show t ≤ _; omega⟩, ⟨by show _ ≤ y; omega, by show y ≤ _; omega⟩, ⟨by show _ ≤ n; omega, by show n ≤ _; omega⟩, by show na.size ≤ _; omega, by show ke.size ≤ _; omega, by show da.size ≤ _; omega⟩
theorem EvIn.lit {e : Ev.E} (h : decide (((0 ≤ e.kind ∧ e.kind ≤ 100) ∧ (0 ≤ e.run ∧ e.run ≤ 100) ∧ (0 ≤ e.task ∧ e.task ≤ 100) ∧ (0 ≤ e.try_ ∧ e.try_ ≤ 100) ∧ (0 ≤ e.n ∧ e.n ≤ 4398046511104)) ∧ e.name.size ≤ 1000 ∧ e.key.size ≤ 1000 ∧ e.data.size ≤ 1000) = true) : EvIn e := by
  have h := of_decide_eq_true h
  obtain ⟨⟨h1, h2, h3, h4, h5⟩, h6, h7, h8⟩ := h
  exact EvIn.few h1 h2 h3 h4 h5 h6 h7 h8
section
variable {w0 w : World} {T : Nat} {s s' : Fw.S} {G : Nat → Prop}
theorem fPut (h : FOne w0 w T s G) (k r t y n : Int) (na ke da : ByteArray) (he : EvIn ⟨k, r, t, y, n, na, ke, da⟩) {x : Int} (hx : Fw.err s ⟨k, r, t, y, n, na, ke, da⟩ = x) (hs : Fw.step s ⟨k, r, t, y, n, na, ke, da⟩ = s') :
    Calls Tryz.prog 11 #[.pointer (some ⟨T, 0, none⟩), .agg #[.int .i64 k, .int .i64 r, .int .i64 t, .int .i64 y, .int .i64 n, .string na, .string ke, .string da]] w fun r w' => r = .returned (.int .i64 x) ∧ Hid (FOne w0 w' T s' G) ∧ Hid (KeptF G w w') :=
  fApply' h ⟨k, r, t, y, n, na, ke, da⟩ he hx hs
end
namespace Fw
def d0 : Df.D := [⟨[97], [], 0, 10, 1, []⟩]
def a1 : S := ⟨0, [(⟨#[100]⟩, d0)], [], []⟩
def a2 : S := ⟨0, [(⟨#[100]⟩, d0)], [(⟨d0, 0, [⟨1, 0, 0, []⟩], []⟩, ⟨#[100]⟩)], []⟩
theorem ae1 : err new ⟨1, 0, 0, 0, 0, ⟨#[100]⟩, ⟨#[]⟩, ⟨#[97]⟩⟩ = 0 := by decide +kernel
theorem as1 : step new ⟨1, 0, 0, 0, 0, ⟨#[100]⟩, ⟨#[]⟩, ⟨#[97]⟩⟩ = a1 := by decide +kernel
theorem ae2 : err a1 ⟨2, 1, 0, 0, 0, ⟨#[100]⟩, ⟨#[]⟩, ⟨#[]⟩⟩ = 0 := by decide +kernel
theorem as2 : step a1 ⟨2, 1, 0, 0, 0, ⟨#[100]⟩, ⟨#[]⟩, ⟨#[]⟩⟩ = a2 := by decide +kernel
theorem af2 : firstV a2 = (1, 0, 1, true) := by decide +kernel
end Fw
set_option maxHeartbeats 4000000 in
theorem awake_any (w : World) (hF : FactsE w) : Calls Tryz.prog 9 #[] w (BoolP w true) := by
  have NW := Lib.hid (fNew w hF)
  clear hF
  go_enter Tryz.func9, Tryz.ntmps9
  go_wp2_with fail
  (with_reducible refine NW.out.mono ?_); rintro e w1 ⟨T, rfl, O1, -⟩
  go_wp2_with fail
  (with_reducible refine (fPut O1.out 1 0 0 0 0 ⟨#[100]⟩ ⟨#[]⟩ ⟨#[97]⟩ (EvIn.lit (by decide)) Fw.ae1 Fw.as1).mono ?_); rintro e w2 ⟨rfl, O2, -⟩
  go_wp2_with fail
  (with_reducible refine (fPut O2.out 2 1 0 0 0 ⟨#[100]⟩ ⟨#[]⟩ ⟨#[]⟩ (EvIn.lit (by decide)) Fw.ae2 Fw.as2).mono ?_); rintro e w3 ⟨rfl, O3, -⟩
  go_wp2_with fail
  (with_reducible refine (fFirst O3.out Fw.af2).mono ?_); rintro e w4 ⟨rfl, O4, -⟩
  go_wp2_with fail
  (with_reducible refine (fLen O4.out (n := 1) rfl).mono ?_); rintro e w5 ⟨rfl, O5, -⟩
  go_wp2
  go_ret
  exact ⟨rfl, Lib.hid O5.out.below⟩
end Go.Proofs.YtkbekojnmdgdgaaGreatDoor
/- FlKeysP -/
namespace Go.Proofs.YtkbekojnmdgdgaaGreatDoor.Fw
def nd : ByteArray := ⟨#[100]⟩
def nk : ByteArray := ⟨#[107, 101, 121]⟩
structure KS (s : S) (first : Int) (q : Nat) : Prop where
  d : lookD s nd = some d0
  runs : s.runs.length = q
  no : first = 0 → s.keys = []
  yes : first ≠ 0 → 0 < first ∧ s.keys = [⟨nd, nk, first⟩]
theorem name_nd : Nm.isName (tx nd) = true := by decide
theorem ks_all : all [⟨1, 0, 0, 0, 0, nd, ⟨#[]⟩, ⟨#[97]⟩⟩] = a1 := by decide +kernel
theorem KS.start : KS a1 0 0 := ⟨by decide +kernel, rfl, fun _ => rfl, fun h => absurd rfl h⟩
theorem KS.get {s : S} {first : Int} {q : Nat} (h : KS s first q) : Ky.getV (ks s) nd nk = first ∧ Ky.getB (ks s) nd nk = decide (0 < first) := by
  by_cases h0 : first = 0
  · have e : (ks s).l = [] := h.no h0
    unfold Ky.getV Ky.getB Ky.findV
    rw [e, h0]
    exact ⟨rfl, rfl⟩
  · obtain ⟨h1, h2⟩ := h.yes h0
    have e : (ks s).l = [⟨nd, nk, first⟩] := h2
    have f : Ky.findV (ks s) nd nk = some ⟨nd, nk, first⟩ := by
      unfold Ky.findV
      rw [e, List.find?_cons, Ky.same_iff.2 ⟨rfl, rfl⟩]
    unfold Ky.getV Ky.getB
    rw [f, decide_eq_true h1]
    exact ⟨rfl, rfl⟩
theorem KS.none_ {s : S} {first : Int} {q : Nat} (h : KS s first q) (hq : q < 64) : err s (startE_ ((q : Int) + 1) nd ⟨#[]⟩) = 0 ∧ KS (step s (startE_ ((q : Int) + 1) nd ⟨#[]⟩)) first (q + 1) := by
  have hr := h.runs
  subst hr
  have e := (start_err s h.d name_nd ⟨#[]⟩ (by decide) hq).2 (.inl rfl)
  refine ⟨e, ?_⟩
  unfold step
  rw [if_pos e]
  unfold stepV
  rw [show (startE_ ((s.runs.length : Int) + 1) nd ⟨#[]⟩).kind = 2 from rfl, if_neg (by decide), if_pos rfl]
  refine ⟨h.d, ?_, h.no, h.yes⟩
  show (s.runs ++ [_]).length = _
  rw [List.length_append]; rfl
theorem KS.key_ {s : S} {first : Int} {q : Nat} (h : KS s first q) (hq : q < 64) :
    (first = 0 → err s (startE_ ((q : Int) + 1) nd nk) = 0 ∧ KS (step s (startE_ ((q : Int) + 1) nd nk)) ((q : Int) + 1) (q + 1)) ∧ (first ≠ 0 → err s (startE_ ((q : Int) + 1) nd nk) ≠ 0 ∧ KS (step s (startE_ ((q : Int) + 1) nd nk)) first q) := by
  have hr := h.runs
  subst hr
  have e := start_err s h.d name_nd nk (by decide) hq
  have hg := h.get.2
  constructor
  · intro h0
    have e0 := e.2 (.inr (by rw [hg, h0]; rfl))
    refine ⟨e0, ?_⟩
    unfold step
    rw [if_pos e0]
    unfold stepV
    rw [show (startE_ ((s.runs.length : Int) + 1) nd nk).kind = 2 from rfl, if_neg (by decide), if_pos rfl]
    refine ⟨h.d, ?_, fun h => by omega, fun _ => ⟨by omega, ?_⟩⟩
    · show (s.runs ++ [_]).length = _
      rw [List.length_append]; rfl
    · have hk := h.no h0
      unfold startS
      show (if nk.size = 0 then s.keys else (Ky.putS (ks s) nd nk ((s.runs.length : Int) + 1)).l) = _
      rw [if_neg (by decide)]
      have hl : (ks s).l = [] := hk
      unfold Ky.putS Ky.findV Ky.pushL
      rw [hl]
      rfl
  · intro h0
    have e0 : err s (startE_ ((s.runs.length : Int) + 1) nd nk) ≠ 0 := fun hc => by
      rcases e.1 hc with h1 | h1
      · exact absurd h1 (by decide)
      · rw [hg, decide_eq_true (h.yes h0).1] at h1; cases h1
    refine ⟨e0, ?_⟩
    unfold step
    rw [if_neg e0]
    exact ⟨h.d, rfl, h.no, h.yes⟩
end Go.Proofs.YtkbekojnmdgdgaaGreatDoor.Fw
/- FlKeys -/
namespace Go.Proofs.YtkbekojnmdgdgaaGreatDoor
open Go.RowKit
set_option maxRecDepth 20000
def Bls (w : World) (B : Nat) (A : Option Addr) (bs : List Bool) : Prop :=
  0 < bs.length → ∃ b off, A = some ⟨b, off, none⟩ ∧ b < B ∧ ∀ i, i < bs.length → w.cell? ⟨b, off + i, none⟩ = some (.bool (bs.getD i false))
theorem Bls.below {w w' : World} {B : Nat} {A : Option Addr} {bs : List Bool} (h : Bls w B A bs) (hb : Below B w w') : Bls w' B A bs := fun h0 => by
  obtain ⟨b, off, e, hlt, hc⟩ := h h0
  exact ⟨b, off, e, hlt, fun i hi => (hb.cell (p := ⟨b, off + i, none⟩) hlt).trans (hc i hi)⟩
theorem Bls.at_ {w : World} {B : Nat} {A : Option Addr} {bs : List Bool} {k : Nat} (h : Bls w B A bs) (hk : k < bs.length) : ∃ b off z, A = some ⟨b, off, none⟩ ∧ Hid (b < B) ∧ w.cell? ⟨b, off + k, none⟩ = some (.bool z) := by
  obtain ⟨b, off, e, hb, hc⟩ := h (by omega)
  exact ⟨b, off, _, e, Lib.hid hb, hc k hk⟩
section
variable {w0 w : World} {T : Nat} {s : Fw.S} {G : Nat → Prop} {first : Int} {q : Nat}
theorem start_in (hq : q < 64) {k : ByteArray} (hk : k.size ≤ 16) : EvIn (Fw.startE_ ((q : Int) + 1) Fw.nd k) := EvIn.few (by decide) (by omega) (by decide) (by decide) (by decide) (by decide) (by omega) (by decide)
theorem fStartN (h : FOne w0 w T s G) (hk : Fw.KS s first q) (hq : q < 64) :
    Calls Tryz.prog 11 #[.pointer (some ⟨T, 0, none⟩), .agg #[.int .i64 2, .int .i64 ((q : Int) + 1), .int .i64 0, .int .i64 0, .int .i64 0, .string ⟨#[100]⟩, .string ⟨#[]⟩, .string ⟨#[]⟩]] w
      fun r w' => r = .returned (.int .i64 0) ∧ ∃ s', Hid (Fw.KS s' first (q + 1)) ∧ Hid (FOne w0 w' T s' G) := by
  have := fApply h (Fw.startE_ ((q : Int) + 1) Fw.nd ⟨#[]⟩) (start_in hq (by decide))
  rw [(hk.none_ hq).1] at this
  exact this.mono fun r w' ⟨h1, h2, _⟩ => ⟨h1, _, Lib.hid (hk.none_ hq).2, h2⟩
theorem fStartK0 (h : FOne w0 w T s G) (hk : Fw.KS s 0 q) (hq : q < 64) :
    Calls Tryz.prog 11 #[.pointer (some ⟨T, 0, none⟩), .agg #[.int .i64 2, .int .i64 ((q : Int) + 1), .int .i64 0, .int .i64 0, .int .i64 0, .string ⟨#[100]⟩, .string ⟨#[107, 101, 121]⟩, .string ⟨#[]⟩]] w
      fun r w' => r = .returned (.int .i64 0) ∧ ∃ s', Hid (Fw.KS s' ((q : Int) + 1) (q + 1)) ∧ Hid (FOne w0 w' T s' G) := by
  have := fApply h (Fw.startE_ ((q : Int) + 1) Fw.nd Fw.nk) (start_in hq (by decide))
  rw [((hk.key_ hq).1 rfl).1] at this
  exact this.mono fun r w' ⟨h1, h2, _⟩ => ⟨h1, _, Lib.hid ((hk.key_ hq).1 rfl).2, h2⟩
theorem fStartK1 (h : FOne w0 w T s G) (hk : Fw.KS s first q) (hf : first ≠ 0) (hq : q < 64) :
    Calls Tryz.prog 11 #[.pointer (some ⟨T, 0, none⟩), .agg #[.int .i64 2, .int .i64 ((q : Int) + 1), .int .i64 0, .int .i64 0, .int .i64 0, .string ⟨#[100]⟩, .string ⟨#[107, 101, 121]⟩, .string ⟨#[]⟩]] w
      fun r w' => ∃ x s', r = .returned (.int .i64 x) ∧ (x == 0) = false ∧ Hid (Fw.KS s' first q) ∧ Hid (FOne w0 w' T s' G) :=
  (fApply h (Fw.startE_ ((q : Int) + 1) Fw.nd Fw.nk) (start_in hq (by decide))).mono fun r w' ⟨h1, h2, _⟩ => ⟨_, _, h1, by simpa using ((hk.key_ hq).2 hf).1, Lib.hid ((hk.key_ hq).2 hf).2, h2⟩
end
set_option maxHeartbeats 4000000 in
theorem keys_walk (n : Int) (A : Option Addr) (cap : Nat) (bs : List Bool) (w : World) (hF : FactsE w) (hz : Bls w w.heap.size A bs) : Calls Tryz.prog 8 #[.int .i64 n, .slice A bs.length cap] w (BoolP w true) := by
  have AW := Lib.hid (awake_any w hF)
  have HZ := Lib.hid hz
  have HF := Lib.hid hF
  obtain ⟨q, hq⟩ : ∃ q, q = bs.length := ⟨_, rfl⟩
  have HQ := Lib.hid hq
  rw [← hq]
  clear hF hz hq
  go_enter Tryz.func8, Tryz.ntmps8
  go_wp2_with fail
  (with_reducible refine AW.out.mono ?_); rintro e w1 ⟨rfl, b1⟩
  by_cases hbig : 30 < q
  · have hbig' : 30 < (q : Int) := by omega
    go_wp2
    go_ret
    exact ⟨rfl, b1⟩
  have hbig' : ¬ 30 < (q : Int) := by omega
  have HB : Hid (q ≤ 30) := Lib.hid (by omega)
  clear hbig AW
  obtain ⟨w2, hw2⟩ : ∃ w2, w2 = w1.alloc (.cells #[.int .i64 1, .int .i64 0, .int .i64 0, .int .i64 0, .int .i64 0, .string ⟨#[100]⟩, .string ⟨#[]⟩, .string ⟨#[97]⟩] 28) := ⟨_, rfl⟩
  have B2 : Hid (Below w1.heap.size w1 w2) := Lib.hid (by rw [hw2]; exact (Below.refl _ _).alloc (Nat.le_refl _) _)
  have E2 : Hid (EvsR w2 w2.heap.size (some ⟨w1.heap.size, 0, none⟩) [⟨1, 0, 0, 0, 0, Fw.nd, ⟨#[]⟩, ⟨#[97]⟩⟩]) := Lib.hid (EvsR.one (by rw [hw2]; exact heap_alloc_new _ _) (EvIn.lit (by decide)))
  have F2 : Hid (FactsE w2) := Lib.hid ((HF.out.on b1.out).on B2.out)
  have AL := Lib.hid (fAll _ _ 1 w2 F2.out E2.out (Nat.le_refl _) (by decide) (n := 1) rfl)
  rw [Fw.ks_all] at AL
  have HW := Lib.hid hw2
  clear hw2
  go_wp2_with fail
  rw [← HW.out]
  (with_reducible refine AL.out.mono ?_); rintro e w3 ⟨T, rfl, O3, B3⟩
  clear AL E2 F2 HW
  go_wp2_with fail
  go_loopw [6, 7] (fun fv iv wr => ∃ (i r : Nat) (s : Fw.S) (f : Int), i ≤ q ∧ r ≤ i ∧ fv = .int .i64 f ∧ iv = .int .i64 i ∧ Fw.KS s f r ∧ 0 ≤ f ∧ f ≤ 100 ∧ FOne w2 wr T s noF) (fun _ iv _ => q - (intOf iv).toNat)
  case atStart => exact ⟨0, 0, Fw.a1, 0, Nat.zero_le _, Nat.le_refl _, rfl, rfl, Fw.KS.start, by decide, by decide, O3.out⟩
  case round =>
    obtain ⟨i, r, s, f, hi, hri, rfl, rfl, hk, hf0, hf1, ho⟩ := hrel
    have OO := Lib.hid ho
    have KK := Lib.hid hk
    have BW : Hid (Below w.heap.size w wr) := Lib.hid (b1.out.trans ((B2.out.trans (OO.out.below.mono B2.out.size)).mono b1.out.size))
    clear ho hk
    by_cases hlt : i < q
    · have hlt' : (i : Int) < (q : Int) := by omega
      have hr30 : r < 64 := by have := HB.out; omega
      have hr31 : r ≤ 29 := by have := HB.out; omega
      obtain ⟨b, off, z, rfl, hn, hb⟩ := (HZ.out.below BW.out).at_ (k := i) (by rw [← HQ.out]; exact hlt)
      clear HZ
      cases z with
      | false =>
        go_wp2_with fail
        (with_reducible refine (fLen OO.out (n := (r : Int)) (by rw [KK.out.runs])).mono ?_); rintro e w4 ⟨rfl, O4, -⟩
        have ST := Lib.hid (fStartN O4.out KK.out hr30)
        go_wp2_with fail
        (with_reducible refine ST.out.mono ?_); rintro e w5 ⟨rfl, s5, K5, O5⟩
        have B5 : Hid (Below w.heap.size w w5) := Lib.hid (b1.out.trans ((B2.out.trans (O5.out.below.mono B2.out.size)).mono b1.out.size))
        have hb5 : w5.cell? ⟨b, off + i, none⟩ = some (.bool false) := (B5.out.cell (p := ⟨b, off + i, none⟩) hn.out).trans ((BW.out.cell (p := ⟨b, off + i, none⟩) hn.out).symm.trans hb)
        clear hb ST
        go_wp2
        refine ⟨⟨i + 1, r + 1, s5, f, by omega, by omega, rfl, by go_num, K5.out, hf0, hf1, O5.out⟩, ?_⟩
        simp [intOf]; omega
      | true =>
        by_cases hf : f = 0
        · subst hf
          go_wp2_with fail
          (with_reducible refine (fLen OO.out (n := (r : Int)) (by rw [KK.out.runs])).mono ?_); rintro e w4 ⟨rfl, O4, -⟩
          have ST := Lib.hid (fStartK0 O4.out KK.out hr30)
          go_wp2_with fail
          (with_reducible refine ST.out.mono ?_); rintro e w5 ⟨rfl, s5, K5, O5⟩
          have B5 : Hid (Below w.heap.size w w5) := Lib.hid (b1.out.trans ((B2.out.trans (O5.out.below.mono B2.out.size)).mono b1.out.size))
          have hb5 : w5.cell? ⟨b, off + i, none⟩ = some (.bool true) := (B5.out.cell (p := ⟨b, off + i, none⟩) hn.out).trans ((BW.out.cell (p := ⟨b, off + i, none⟩) hn.out).symm.trans hb)
          clear hb ST
          go_wp2_with fail
          (with_reducible refine (fLen O5.out (n := (r : Int) + 1) (by rw [K5.out.runs]; omega)).mono ?_); rintro e w6 ⟨rfl, O6, -⟩
          go_wp2
          refine ⟨⟨i + 1, r + 1, s5, (r : Int) + 1, by omega, by omega, rfl, by go_num, K5.out, by omega, by omega, O6.out⟩, ?_⟩
          simp [intOf]; omega
        · have hf2 : (f == 0) = false := by simpa using hf
          go_wp2_with fail
          (with_reducible refine (fLen OO.out (n := (r : Int)) (by rw [KK.out.runs])).mono ?_); rintro e w4 ⟨rfl, O4, -⟩
          have ST := Lib.hid (fStartK1 O4.out KK.out hf hr30)
          go_wp2_with fail
          (with_reducible refine ST.out.mono ?_); rintro e w5 ⟨x, s5, rfl, hx, K5, O5⟩
          have B5 : Hid (Below w.heap.size w w5) := Lib.hid (b1.out.trans ((B2.out.trans (O5.out.below.mono B2.out.size)).mono b1.out.size))
          have hb5 : w5.cell? ⟨b, off + i, none⟩ = some (.bool true) := (B5.out.cell (p := ⟨b, off + i, none⟩) hn.out).trans ((BW.out.cell (p := ⟨b, off + i, none⟩) hn.out).symm.trans hb)
          clear hb ST
          go_wp2
          refine ⟨⟨i + 1, r, s5, f, by omega, by omega, rfl, by go_num, K5.out, hf0, hf1, O5.out⟩, ?_⟩
          simp [intOf]; omega
    · obtain rfl : q = i := by omega
      have G := Lib.hid KK.out.get
      have KY := Lib.hid (fKey OO.out ⟨#[100]⟩ ⟨#[107, 101, 121]⟩ ⟨by decide, by decide⟩ G.out.1 G.out.2)
      go_wp2_with fail
      (with_reducible refine KY.out.mono ?_); rintro e w4 ⟨rfl, O4, -⟩
      have B4 : Hid (Below w.heap.size w w4) := Lib.hid (b1.out.trans ((B2.out.trans (O4.out.below.mono B2.out.size)).mono b1.out.size))
      go_wp2
      go_ret
      exact ⟨rfl, B4⟩
end Go.Proofs.YtkbekojnmdgdgaaGreatDoor
/- BoolsIn -/
namespace Go.Proofs.YtkbekojnmdgdgaaGreatDoor
open Go.ChangeShapes Go.WideShapes Go.ChangeAt Go.RowKit Go.Deep
theorem bools_in {H : Type} {enc : TypeId × Value → H} {w : World} {base : Nat} {spare : Nat → Bool} {held : Bool} {fuel : Nat} {cs : List Value} {x : DataW H × List MemPlace}
    (h : DataW.trod enc Tryz.prog w base spare held fuel 69 cs = some x) : ∃ (A : Option Addr) (ms : List Bool) (cap : Nat), cs = [.slice A ms.length cap] ∧ ms.length ≤ cap ∧ cap ≤ 9223372036854775807 ∧ Bls w w.heap.size A ms := by
  obtain ⟨A, ls, cap, h1, h2, h3, h4⟩ := ones_any false (fun v b => v = .bool b) Tryz.underlying69 (by kernel_rfl) (fun n v y hy => bool_of Tryz.underlying4 hy) h
  refine ⟨A, ls, cap, h1, h2, h3, fun h0 => ?_⟩
  obtain ⟨b, off, e, hb, hc⟩ := h4 h0
  refine ⟨b, off, e, hb, fun i hi => ?_⟩
  obtain ⟨v, hv, rfl⟩ := hc i hi
  exact hv
end Go.Proofs.YtkbekojnmdgdgaaGreatDoor
