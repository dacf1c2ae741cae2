/-
  Part 32 of the texts behind the law: VFlChange, VFlApply, VFlAll, VFlProg, VFlOne, VFlAwake, VFlApart, VFlKnown.
-/
import Derived.Test.YtkbekojnmdgdgaaGreatDoorVk29
import Derived.Test.YtkbekojnmdgdgaaGreatDoorVk24
import Derived.Test.YtkbekojnmdgdgaaGreatDoorVk9
import Derived.BigQuiet
import Derived.Test.YtkbekojnmdgdgaaGreatDoorVk31
import Derived.Test.YtkbekojnmdgdgaaGreatDoorVk26
import Derived.Test.YtkbekojnmdgdgaaGreatDoorVk27
import Derived.Test.YtkbekojnmdgdgaaGreatDoorVk5
/- FlChange -/
namespace Go.Proofs.YtkbekojnmdgdgaaGreatDoor
open Go.RowKit Go.Maps
set_option maxRecDepth 20000
def Fw.actT (s : Fw.S) (e : Ev.E) : Fw.S := if Fw.actE s e = 0 then Fw.actS s e else s
set_option maxHeartbeats 4000000 in
theorem change_any {w : World} {g : Nat} {a : FAt} {s : Fw.S} (h : FPM w g a s) (hI : Fw.Inv s) (e : Ev.E) (he : EvIn e) (hr1 : 1 ≤ e.run) (hn : e.name.size ≤ 140737488355328) (hd : e.data.size ≤ 140737488355328) :
    Calls Tryz.prog 32 #[.pointer (some ⟨g, 0, none⟩), .agg (evc e)] w (ActG w g a (Fw.actE s e) (Fw.actT s e)) := by
  obtain ⟨w1, hw1⟩ : ∃ w1, w1 = w.alloc (.cells (evc e) 28) := ⟨_, rfl⟩
  have B1 : Hid (Below w.heap.size w w1) := Lib.hid (by rw [hw1]; exact (Below.refl _ _).alloc (Nat.le_refl _) _)
  have X1 : Hid (w1.heap[w.heap.size]? = some (.cells (evc e) 28 (0, 0))) := Lib.hid (by rw [hw1]; exact evBox _ _ _)
  have H := Lib.hid h
  have H1 := Lib.hid (h.on B1.out)
  obtain ⟨m, hm⟩ : ∃ m, m = s.runs.length := ⟨_, rfl⟩
  have HM := Lib.hid hm
  have hm9 : m ≤ 64 := by rw [hm]; exact h.rm
  obtain ⟨⟨c0, -, c2, -, -⟩, -⟩ := H1.out.cells
  rw [← hm] at c2
  obtain ⟨v0, v1, v2, v3, v4, v5, v6, v7⟩ := ev8 X1.out
  obtain ⟨ru, hru⟩ : ∃ ru, ru = e.run := ⟨_, rfl⟩
  have RU := Lib.hid hru
  rw [← hru] at v1 hr1
  have KI : Hid (Fw.Inv s) := Lib.hid hI
  have HE := Lib.hid (And.intro he (And.intro hn hd))
  have V : Hid (Fw.actE s e = if (m : Int) < ru then 4 else (Fw.act s.clock e (Fw.run s ru)).2) := Lib.hid (by unfold Fw.actE; rw [hm, hru])
  have VS : Hid (Fw.actT s e = if Fw.actE s e = 0 then Fw.setR s ru (Fw.act s.clock e (Fw.run s ru)).1 else s) := Lib.hid (by unfold Fw.actT Fw.actS; rw [hru])
  generalize Fw.actE s e = v at *
  generalize Fw.actT s e = s2 at *
  clear h hI he hn hd hm
  by_cases hlt : (m : Int) < ru
  · have R : Hid (v = 4) := Lib.hid (by rw [V.out, if_pos hlt])
    have RS' : Hid (s2 = s) := Lib.hid (by rw [VS.out, if_neg (by rw [R.out]; decide)])
    clear V VS v0 v2 v3 v4 v5 v6 v7 c0 hru
    unfold evc at hw1 ⊢
    go_enter Tryz.func32, Tryz.ntmps32
    go_upto_region 1 with (fail)
    rw [← hw1]
    clear hw1
    go_quiet (fail)
    go_wp2
    go_ret
    rw [RS'.out]
    exact ActG.same H.out (below_n B1.out _) R.out.symm
  · obtain ⟨k, rfl⟩ : ∃ k : Nat, ru = (k : Int) + 1 := ⟨(ru - 1).toNat, by omega⟩
    have hkm : k < m := by omega
    have HK : Hid (k < s.runs.length) := Lib.hid (by rw [← HM.out]; exact hkm)
    have RK : Hid (Fw.run s ((k : Int) + 1) = rAt s.runs k) := Lib.hid (by unfold Fw.run rAt; rw [show ((k : Int) + 1 - 1).toNat = k by omega]; rfl)
    have V2 : Hid (v = (Fw.act s.clock e (rAt s.runs k)).2) := Lib.hid (by rw [V.out, if_neg hlt, RK.out])
    have VT : Hid (s2 = if v = 0 then { s with runs := s.runs.modify k fun q => ((Fw.act s.clock e (rAt s.runs k)).1, q.2) } else s) := Lib.hid (by
      rw [VS.out, RK.out]
      unfold Fw.setR
      rw [show ((k : Int) + 1 - 1).toNat = k by omega])
    have RI : Hid (Rn.Inv (rAt s.runs k)) := Lib.hid (by rw [rAt_get HK.out]; exact (KI.out.rok _ (List.getElem_mem HK.out)).1.toInv)
    obtain ⟨b, hA, -, hb⟩ := H1.out.runs.shape (by rw [rsV_len]; have := HK.out; omega)
    have HA := Lib.hid hA
    have hrow := H1.out.runs
    rw [hA] at hrow c2
    obtain ⟨y0, y1, y2, y3⟩ := rsV_cells hrow HK.out
    have CK : Hid (0 ≤ s.clock ∧ s.clock ≤ Rn.tickMax) := Lib.hid ⟨KI.out.c0, by have := KI.out.c1; unfold Rn.tickMax; omega⟩
    have CC := Lib.hid (fun W (hW : Below w1.heap.size w1 W) => changed_any (a.f k) (rAt s.runs k) RI.out W a.Q ((H1.out.inner k HK.out).on hW) e HE.out.1 HE.out.2.1 HE.out.2.2 s.clock CK.out.1 CK.out.2)
    clear V VS RK RI hrow hA hru
    generalize rAt s.runs k = r at *
    generalize Fw.act s.clock e r = x at *
    obtain ⟨p, hp⟩ : ∃ p, p = a.f k := ⟨_, rfl⟩
    rw [← hp] at y0 y2 y3 CC
    clear hp
    unfold rv at CC
    generalize r.d.length = an at *
    generalize r.st = st at *
    generalize r.ts.length = tn at *
    generalize r.sg.length = sn at *
    obtain ⟨c, hc⟩ : ∃ c, c = s.clock := ⟨_, rfl⟩
    rw [← hc] at c0 CC
    clear hc
    unfold evc at hw1 CC ⊢
    go_enter Tryz.func32, Tryz.ntmps32
    go_upto_region 1 with (fail)
    rw [← hw1]
    clear hw1
    go_quiet (fail)
    go_upto_region 3 with (fail)
    generalize hw2 : w1.drewN nq = w2
    have B12 : Hid (Below w1.heap.size w1 w2) := Lib.hid (by rw [← hw2]; exact below_n (Below.refl _ _) _)
    clear hw2
    have SD : Hid (∀ W, Below w1.heap.size w1 W → W.cell? ⟨g, 0, none⟩ = some (.int .i64 c) ∧ W.cell? ⟨g, 2, none⟩ = some (.slice (some ⟨b, 0, none⟩) m a.cr) ∧ (W.cell? ⟨b, k * 4, none⟩ = some (.slice p.A an p.ca) ∧ W.cell? ⟨b, k * 4 + 1, none⟩ = some (.int .i64 st) ∧ W.cell? ⟨b, k * 4 + 2, none⟩ = some (.slice p.T tn p.ct) ∧ W.cell? ⟨b, k * 4 + 3, none⟩ = some (.slice p.S sn p.cs)) ∧
        W.cell? ⟨w.heap.size, 0, none⟩ = some (.int .i64 e.kind) ∧ W.cell? ⟨w.heap.size, 1, none⟩ = some (.int .i64 (k + 1)) ∧ W.cell? ⟨w.heap.size, 2, none⟩ = some (.int .i64 e.task) ∧ W.cell? ⟨w.heap.size, 3, none⟩ = some (.int .i64 e.try_) ∧ W.cell? ⟨w.heap.size, 4, none⟩ = some (.int .i64 e.n) ∧ W.cell? ⟨w.heap.size, 5, none⟩ = some (.string e.name) ∧ W.cell? ⟨w.heap.size, 6, none⟩ = some (.string e.key) ∧ W.cell? ⟨w.heap.size, 7, none⟩ = some (.string e.data)) := Lib.hid fun W hW => by
      have hc : ∀ {bb o : Nat} {u : Value}, w1.cell? ⟨bb, o, none⟩ = some u → W.cell? ⟨bb, o, none⟩ = some u := fun h => (hW.cell (block_lt h)).trans h
      exact ⟨hc c0, hc c2, ⟨hc y0, hc y1, hc y2, hc y3⟩, hc v0, hc v1, hc v2, hc v3, hc v4, hc v5, hc v6, hc v7⟩
    clear c0 c2 y0 y1 y2 y3 v0 v1 v2 v3 v4 v5 v6 v7
    obtain ⟨an2, han⟩ : ∃ z, z = x.1.d.length := ⟨_, rfl⟩
    obtain ⟨st2, hst⟩ : ∃ z, z = x.1.st := ⟨_, rfl⟩
    obtain ⟨tn2, htn⟩ : ∃ z, z = x.1.ts.length := ⟨_, rfl⟩
    obtain ⟨sn2, hsn⟩ : ∃ z, z = x.1.sg.length := ⟨_, rfl⟩
    obtain ⟨er, her⟩ : ∃ z, z = x.2 := ⟨_, rfl⟩
    have CU : Hid (∀ W, Below w1.heap.size w1 W → Calls Tryz.prog 62 #[.agg #[.slice p.A an p.ca, .int .i64 st, .slice p.T tn p.ct, .slice p.S sn p.cs], .agg #[.int .i64 e.kind, .int .i64 ((k : Int) + 1), .int .i64 e.task, .int .i64 e.try_, .int .i64 e.n, .string e.name, .string e.key, .string e.data], .int .i64 c] W (RunY W x.1 an2 st2 tn2 sn2 er)) := Lib.hid fun W hW => by
      have := CC.out W hW
      rw [← RU.out] at this
      exact this.mono fun _ _ h => h.of (Prod.ext rfl her.symm) han.symm hst.symm htn.symm hsn.symm
    have RR : Hid (x.1.d.length = an2 ∧ x.1.st = st2 ∧ x.1.ts.length = tn2 ∧ x.1.sg.length = sn2) := Lib.hid ⟨han.symm, hst.symm, htn.symm, hsn.symm⟩
    rw [← her] at V2
    clear CC han hst htn hsn her
    unfold RunY at CU
    have DB : Hid (Below w1.heap.size w1 w2.drew) := Lib.hid B12.out.drew
    have LX : Hid (w.heap.size < w1.heap.size) := Lib.hid (lt_of_block X1.out)
    have hk' : (k : Int) < (m : Int) := by omega
    have hkw : IntKind.i64.wrap (k : Int) = (k : Int) := IntWalk.i64_in _ (by omega)
    refine wp_region_C (fun w' => w'.cell? ⟨g, 0, none⟩ = some (.int .i64 c) ∧ w'.cell? ⟨g, 2, none⟩ = some (.slice (some ⟨b, 0, none⟩) m a.cr) ∧ (w'.cell? ⟨b, k * 4, none⟩ = some (.slice p.A an p.ca) ∧ w'.cell? ⟨b, k * 4 + 1, none⟩ = some (.int .i64 st) ∧ w'.cell? ⟨b, k * 4 + 2, none⟩ = some (.slice p.T tn p.ct) ∧ w'.cell? ⟨b, k * 4 + 3, none⟩ = some (.slice p.S sn p.cs)) ∧ w'.cell? ⟨w.heap.size, 0, none⟩ = some (.int .i64 e.kind) ∧ w'.cell? ⟨w.heap.size, 1, none⟩ = some (.int .i64 (k + 1)) ∧ w'.cell? ⟨w.heap.size, 2, none⟩ = some (.int .i64 e.task) ∧ w'.cell? ⟨w.heap.size, 3, none⟩ = some (.int .i64 e.try_) ∧ w'.cell? ⟨w.heap.size, 4, none⟩ = some (.int .i64 e.n) ∧ w'.cell? ⟨w.heap.size, 5, none⟩ = some (.string e.name) ∧ w'.cell? ⟨w.heap.size, 6, none⟩ = some (.string e.key) ∧ w'.cell? ⟨w.heap.size, 7, none⟩ = some (.string e.data)) 19 (by kernel_rfl) ?_
    have hS0 : (fun w' : World => w'.cell? ⟨g, 0, none⟩ = some (.int .i64 c) ∧ w'.cell? ⟨g, 2, none⟩ = some (.slice (some ⟨b, 0, none⟩) m a.cr) ∧ (w'.cell? ⟨b, k * 4, none⟩ = some (.slice p.A an p.ca) ∧ w'.cell? ⟨b, k * 4 + 1, none⟩ = some (.int .i64 st) ∧ w'.cell? ⟨b, k * 4 + 2, none⟩ = some (.slice p.T tn p.ct) ∧ w'.cell? ⟨b, k * 4 + 3, none⟩ = some (.slice p.S sn p.cs)) ∧ w'.cell? ⟨w.heap.size, 0, none⟩ = some (.int .i64 e.kind) ∧ w'.cell? ⟨w.heap.size, 1, none⟩ = some (.int .i64 (k + 1)) ∧ w'.cell? ⟨w.heap.size, 2, none⟩ = some (.int .i64 e.task) ∧ w'.cell? ⟨w.heap.size, 3, none⟩ = some (.int .i64 e.try_) ∧ w'.cell? ⟨w.heap.size, 4, none⟩ = some (.int .i64 e.n) ∧ w'.cell? ⟨w.heap.size, 5, none⟩ = some (.string e.name) ∧ w'.cell? ⟨w.heap.size, 6, none⟩ = some (.string e.key) ∧ w'.cell? ⟨w.heap.size, 7, none⟩ = some (.string e.data)) w2.drew := SD.out _ DB.out
    refine takP [3, 2, 1] 0 (h := ?_)
    try simp only [Act.put, List.setIfInBounds_toArray, List.set_cons_zero, List.set_cons_succ]
    refine takP [3, 2] 1 (h := ?_)
    try simp only [Act.put, List.setIfInBounds_toArray, List.set_cons_zero, List.set_cons_succ]
    refine takP [3] 2 (h := ?_)
    try simp only [Act.put, List.setIfInBounds_toArray, List.set_cons_zero, List.set_cons_succ]
    refine takC 3 (h := ?_)
    try simp only [Act.put, List.setIfInBounds_toArray, List.set_cons_zero, List.set_cons_succ]
    refine takC 4 (h := ?_)
    try simp only [Act.put, List.setIfInBounds_toArray, List.set_cons_zero, List.set_cons_succ]
    refine takC 5 (h := ?_)
    try simp only [Act.put, List.setIfInBounds_toArray, List.set_cons_zero, List.set_cons_succ]
    refine takC 6 (h := ?_)
    try simp only [Act.put, List.setIfInBounds_toArray, List.set_cons_zero, List.set_cons_succ]
    refine takC 7 (h := ?_)
    try simp only [Act.put, List.setIfInBounds_toArray, List.set_cons_zero, List.set_cons_succ]
    refine takC 8 (h := ?_)
    try simp only [Act.put, List.setIfInBounds_toArray, List.set_cons_zero, List.set_cons_succ]
    refine takC 9 (h := ?_)
    try simp only [Act.put, List.setIfInBounds_toArray, List.set_cons_zero, List.set_cons_succ]
    refine takC 10 (h := ?_)
    try simp only [Act.put, List.setIfInBounds_toArray, List.set_cons_zero, List.set_cons_succ]
    refine takC 11 (h := ?_)
    try simp only [Act.put, List.setIfInBounds_toArray, List.set_cons_zero, List.set_cons_succ]
    refine takC 12 (h := ?_)
    try simp only [Act.put, List.setIfInBounds_toArray, List.set_cons_zero, List.set_cons_succ]
    refine takC 13 (h := ?_)
    try simp only [Act.put, List.setIfInBounds_toArray, List.set_cons_zero, List.set_cons_succ]
    refine wpAnyC_two (i := 14) (j := 18) (oi := ?o1) (oj := ?p1) ?hi1 ?hj1 (by kernel_rfl) ?step1 ?more1
    case hi1 => (simp only [List.getElem?_toArray, List.getElem?_cons_zero, List.getElem?_cons_succ]; exact rfl)
    case hj1 => (simp only [List.getElem?_toArray, List.getElem?_cons_zero, List.getElem?_cons_succ]; exact rfl)
    · skip
      intro K' hK
      (go_simp; go_at_call 62; (with_reducible refine (CU.out _ DB.out).mono ?_); rintro r5 W5 ⟨q, rfl, o5, b5⟩; have Q5 : Hid (Below w1.heap.size w1 W5) := Lib.hid (DB.out.trans (b5.out.mono DB.out.size)); try dsimp only)
      refine hK.out _ _ ?_ (fun hHeld => ?_)
      · exact fun _ => SD.out _ Q5.out
      clear hK K' hHeld
      try simp only [Act.put, List.setIfInBounds_toArray, List.set_cons_zero, List.set_cons_succ]
      have S5 := SD.out _ Q5.out
      refine takP [16] 15 (h := ?_)
      try simp only [Act.put, List.setIfInBounds_toArray, List.set_cons_zero, List.set_cons_succ]
      refine takC 16 (h := ?_)
      try simp only [Act.put, List.setIfInBounds_toArray, List.set_cons_zero, List.set_cons_succ]
      refine takA 17 (h := ?_)
      try simp only [Act.put, List.setIfInBounds_toArray, List.set_cons_zero, List.set_cons_succ]
      refine wpAnyC_one (i := 18) (oi := ?o2) ?hi2 (by kernel_rfl) ?step2
      case hi2 => (simp only [List.getElem?_toArray, List.getElem?_cons_zero, List.getElem?_cons_succ]; exact rfl)
      intro K' hK
      go_simp
      refine hK.out _ _ ?_ (fun hHeld => ?_)
      · exact fun _ => SD.out _ (Q5.out.alloc Q5.out.size _)
      clear hK K' hHeld
      try simp only [Act.put, List.setIfInBounds_toArray, List.set_cons_zero, List.set_cons_succ]
      obtain ⟨W6, hW6⟩ : ∃ W6, W6 = W5.alloc (.cells #[.slice none 0 0, .int .i64 0, .slice none 0 0, .slice none 0 0] 41) := ⟨_, rfl⟩
      have YZ : Hid (W6.heap[W5.heap.size]? = some (.cells #[.slice none 0 0, .int .i64 0, .slice none 0 0, .slice none 0 0] 41 (0, 0))) := Lib.hid (by rw [hW6]; exact heap_alloc_new _ _)
      have BW : Hid (Below w1.heap.size w1 W6) := Lib.hid (by rw [hW6]; exact Q5.out.alloc Q5.out.size _)
      have Z6 : Hid (W6.heap.size = W5.heap.size + 1) := Lib.hid (by rw [hW6]; simp)
      rw [← hW6]
      have OW : Hid (RunO W6 (fun i => w2.heap.size ≤ i ∧ i < W5.heap.size) q x.1) := Lib.hid (o5.out.here.on (by rw [hW6]; exact (Below.refl _ _).alloc (Nat.le_refl _) _))
      clear hW6 S5
      have YL : Hid (w1.heap.size ≤ W5.heap.size ∧ w.heap.size < w1.heap.size ∧ w1.heap.size ≤ w2.heap.size ∧ W5.heap.size < W6.heap.size) := Lib.hid ⟨Q5.out.size, LX.out, B12.out.size, lt_of_block YZ.out⟩
      have yz := obj4 YZ.out
      obtain ⟨⟨z0, z1, z2, z3⟩, f0, f1, f2, f3⟩ := yz
      refine wpAnyC_one (i := 19) (oi := ?o3) ?hi3 (by kernel_rfl) ?step3
      case hi3 => (simp only [List.getElem?_toArray, List.getElem?_cons_zero, List.getElem?_cons_succ]; exact rfl)
      intro K' hK
      go_simp
      refine hK.out _ _ ?_ (fun hHeld => ?_)
      · exact fun h => (by cases h)
      clear hK K' hHeld
      try simp only [Act.put, List.setIfInBounds_toArray, List.set_cons_zero, List.set_cons_succ]
      clear z0 z1 z2 z3 f0 f1 f2 f3
      obtain ⟨W7, hW7⟩ : ∃ W7, W7 = S4 W6 (W5.heap.size) (.slice q.A an2 q.ca) (.int .i64 st2) (.slice q.T tn2 q.ct) (.slice q.S sn2 q.cs) := ⟨_, rfl⟩
      have Y7 : Hid (W7.heap[W5.heap.size]? = some (.cells #[.slice q.A an2 q.ca, .int .i64 st2, .slice q.T tn2 q.ct, .slice q.S sn2 q.cs] 41 (0, 0))) := Lib.hid (by rw [hW7]; exact S4.at_ YZ.out _ _ _ _)
      have K7 : Hid (∀ i, i ≠ W5.heap.size → W7.heap[i]? = W6.heap[i]?) := Lib.hid fun i hi => by rw [hW7]; exact S4.else_ _ _ _ _ _ _ hi
      have S7 : Hid (W7.heap.size = W6.heap.size) := Lib.hid (by rw [hW7]; exact S4.size_ _ _ _ _ _ _)
      have B7 : Hid (Below w1.heap.size w1 W7) := Lib.hid (by rw [hW7]; exact S4.below BW.out YL.out.1 _ _ _ _)
      have O7 : Hid (RunO W7 (fun i => w2.heap.size ≤ i ∧ i < W5.heap.size) q x.1) := Lib.hid (OW.out.keep (Nat.le_of_eq S7.out.symm) fun i hi _ => K7.out i (by have := YL.out; have := hi.1; have := hi.2; omega))
      rw [S4.lit, ← hW7]
      clear hW7
      refine wpAnyC_one (i := 20) (oi := ?o4) ?hi4 (by kernel_rfl) ?step4
      case hi4 => (simp only [List.getElem?_toArray, List.getElem?_cons_zero, List.getElem?_cons_succ]; exact rfl)
      intro K' hK
      go_simp
      refine hK.out _ _ ?_ (fun hHeld => ?_)
      · exact fun h => (by cases h)
      clear hK K' hHeld
      try simp only [Act.put, List.setIfInBounds_toArray, List.set_cons_zero, List.set_cons_succ]
      refine wpAnyC_done (by kernel_rfl) ?_ _
      by_cases hx : er = 0
      · subst hx
        have R : Hid (v = 0) := V2
        have RS' : Hid (s2 = { s with runs := s.runs.modify k fun q => (x.1, q.2) }) := Lib.hid (by rw [VT.out, if_pos R.out])
        have c2 := (SD.out _ B7.out).2.1
        have v1 := (SD.out _ B7.out).2.2.2.2.1
        obtain ⟨⟨z0, z1, z2, z3⟩, -⟩ := obj4 Y7.out
        have P7 := Lib.hid (H1.out.on B7.out)
        go_upto_region 6 with (fail)
        have SE : Hid (W7.drew.cell? ⟨g, 2, none⟩ = some (.slice (some ⟨b, 0, none⟩) m a.cr) ∧ W7.drew.cell? ⟨w.heap.size, 1, none⟩ = some (.int .i64 (k + 1)) ∧ W7.drew.cell? ⟨W5.heap.size, 0, none⟩ = some (.slice q.A an2 q.ca) ∧ W7.drew.cell? ⟨W5.heap.size, 1, none⟩ = some (.int .i64 st2) ∧ W7.drew.cell? ⟨W5.heap.size, 2, none⟩ = some (.slice q.T tn2 q.ct) ∧ W7.drew.cell? ⟨W5.heap.size, 3, none⟩ = some (.slice q.S sn2 q.cs)) := Lib.hid ⟨c2, v1, z0, z1, z2, z3⟩
        refine wp_region_C (fun w' => w'.cell? ⟨g, 2, none⟩ = some (.slice (some ⟨b, 0, none⟩) m a.cr) ∧ w'.cell? ⟨w.heap.size, 1, none⟩ = some (.int .i64 (k + 1)) ∧ w'.cell? ⟨W5.heap.size, 0, none⟩ = some (.slice q.A an2 q.ca) ∧ w'.cell? ⟨W5.heap.size, 1, none⟩ = some (.int .i64 st2) ∧ w'.cell? ⟨W5.heap.size, 2, none⟩ = some (.slice q.T tn2 q.ct) ∧ w'.cell? ⟨W5.heap.size, 3, none⟩ = some (.slice q.S sn2 q.cs)) 9 (by kernel_rfl) ?_
        have hS0 : (fun w' : World => w'.cell? ⟨g, 2, none⟩ = some (.slice (some ⟨b, 0, none⟩) m a.cr) ∧ w'.cell? ⟨w.heap.size, 1, none⟩ = some (.int .i64 (k + 1)) ∧ w'.cell? ⟨W5.heap.size, 0, none⟩ = some (.slice q.A an2 q.ca) ∧ w'.cell? ⟨W5.heap.size, 1, none⟩ = some (.int .i64 st2) ∧ w'.cell? ⟨W5.heap.size, 2, none⟩ = some (.slice q.T tn2 q.ct) ∧ w'.cell? ⟨W5.heap.size, 3, none⟩ = some (.slice q.S sn2 q.cs)) W7.drew := SE.out
        clear c2 v1 z0 z1 z2 z3
        refine takC 0 (h := ?_)
        try simp only [Act.put, List.setIfInBounds_toArray, List.set_cons_zero, List.set_cons_succ]
        refine takC 1 (h := ?_)
        try simp only [Act.put, List.setIfInBounds_toArray, List.set_cons_zero, List.set_cons_succ]
        refine takC 2 (h := ?_)
        try simp only [Act.put, List.setIfInBounds_toArray, List.set_cons_zero, List.set_cons_succ]
        refine takC 3 (h := ?_)
        try simp only [Act.put, List.setIfInBounds_toArray, List.set_cons_zero, List.set_cons_succ]
        refine takC 4 (h := ?_)
        try simp only [Act.put, List.setIfInBounds_toArray, List.set_cons_zero, List.set_cons_succ]
        refine takC 5 (h := ?_)
        try simp only [Act.put, List.setIfInBounds_toArray, List.set_cons_zero, List.set_cons_succ]
        refine takC 6 (h := ?_)
        try simp only [Act.put, List.setIfInBounds_toArray, List.set_cons_zero, List.set_cons_succ]
        refine takC 7 (h := ?_)
        try simp only [Act.put, List.setIfInBounds_toArray, List.set_cons_zero, List.set_cons_succ]
        have row5 := P7.out.runs
        rw [HA.out] at row5
        have ff := fun i => row5.thawed i
        have hf0 := ff (k * 4)
        have hf1 := ff (k * 4 + 1)
        have hf2 := ff (k * 4 + 2)
        have hf3 := ff (k * 4 + 3)
        obtain ⟨y0, y1, y2, y3⟩ := rsV_cells row5 HK.out
        clear ff row5
        refine wpAnyC_one (i := 8) (oi := ?o5) ?hi5 (by kernel_rfl) ?step5
        case hi5 => (simp only [List.getElem?_toArray, List.getElem?_cons_zero, List.getElem?_cons_succ]; exact rfl)
        intro K' hK
        go_simp
        refine hK.out _ _ ?_ (fun hHeld => ?_)
        · exact fun _ => SE.out
        clear hK K' hHeld
        try simp only [Act.put, List.setIfInBounds_toArray, List.set_cons_zero, List.set_cons_succ]
        refine wpAnyC_one (i := 9) (oi := ?o6) ?hi6 (by kernel_rfl) ?step6
        case hi6 => (simp only [List.getElem?_toArray, List.getElem?_cons_zero, List.getElem?_cons_succ]; exact rfl)
        intro K' hK
        go_simp
        refine hK.out _ _ ?_ (fun hHeld => ?_)
        · exact fun h => (by cases h)
        clear hK K' hHeld
        try simp only [Act.put, List.setIfInBounds_toArray, List.set_cons_zero, List.set_cons_succ]
        refine wpAnyC_done (by kernel_rfl) ?_ _
        clear hf0 hf1 hf2 hf3 y0 y1 y2 y3
        have ST : Hid (∃ a', FPM (RS W7.drew b k q an2 st2 tn2 sn2) g a' { s with runs := s.runs.modify k fun q => (x.1, q.2) } ∧ StepM g a a' w (RS W7.drew b k q an2 st2 tn2 sn2)) := Lib.hid (by
          have sz := B1.out.size
          obtain ⟨p6, q6⟩ := P7.out.drew.setRun HA.out HK.out (r := x.1) (p := q) (N := fun i => w2.heap.size ≤ i ∧ i < W5.heap.size) (O7.out.on (Below.refl _ _).drew) fun i hi => ⟨by have := YL.out; have := S7.out; have h2 : W7.drew.heap.size = W7.heap.size := rfl; omega, fun hm => by have := H.out.lt i (.inl hm); have := YL.out; omega⟩
          rw [RR.out.1, RR.out.2.1, RR.out.2.2.1, RR.out.2.2.2] at p6 q6
          refine ⟨_, p6, ⟨(Only.of (B1.out.trans (B7.out.drew.mono B1.out.size))).trans q6 fun i hi => .inl hi, fun i hi => .inl hi, fun i hi => ?_⟩⟩
          rcases hi with hi | hi
          · exact .inl hi
          · exact .inr (by have := YL.out; have := hi.1; omega))
        go_wp2
        rw [RS.lit]
        go_ret
        rw [RS'.out]
        exact ⟨by rw [R.out]; rfl, ST⟩
      · have hx2 : (er != 0) = true := by simpa using hx
        have RS' : Hid (s2 = s) := Lib.hid (by rw [VT.out, if_neg (by rw [V2.out]; exact hx)])
        clear hx
        go_wp2
        go_ret
        rw [RS'.out]
        exact ActG.same H.out (B1.out.trans (B7.out.mono B1.out.size)) V2.out.symm
    · skip
      intro K' hK
      go_simp
      refine hK.out _ _ ?_ (fun hHeld => ?_)
      · exact fun _ => SD.out _ (DB.out.alloc DB.out.size _)
      clear hK K' hHeld
      try simp only [Act.put, List.setIfInBounds_toArray, List.set_cons_zero, List.set_cons_succ]
      obtain ⟨W4, hW4⟩ : ∃ W4, W4 = (w2.alloc (.cells #[.slice none 0 0, .int .i64 0, .slice none 0 0, .slice none 0 0] 41)).drew := ⟨_, rfl⟩
      have YA : Hid (W4.heap[w2.heap.size]? = some (.cells #[.slice none 0 0, .int .i64 0, .slice none 0 0, .slice none 0 0] 41 (0, 0))) := Lib.hid (by rw [hW4]; exact heap_alloc_new _ _)
      have D4 : Hid (Below w1.heap.size w1 W4) := Lib.hid (by rw [hW4]; exact (B12.out.alloc B12.out.size _).drew)
      rw [← hW4]
      clear hW4
      refine wpAnyC_one (i := 14) (oi := ?o7) ?hi7 (by kernel_rfl) ?step7
      case hi7 => (simp only [List.getElem?_toArray, List.getElem?_cons_zero, List.getElem?_cons_succ]; exact rfl)
      intro K' hK
      (go_simp; go_at_call 62; (with_reducible refine (CU.out _ D4.out).mono ?_); rintro r5 W5 ⟨q, rfl, o5, b5⟩; have Q5 : Hid (Below w1.heap.size w1 W5) := Lib.hid (D4.out.trans (b5.out.mono D4.out.size)); try dsimp only)
      refine hK.out _ _ ?_ (fun hHeld => ?_)
      · exact fun _ => SD.out _ Q5.out
      clear hK K' hHeld
      try simp only [Act.put, List.setIfInBounds_toArray, List.set_cons_zero, List.set_cons_succ]
      have S5 := SD.out _ Q5.out
      refine takP [16] 15 (h := ?_)
      try simp only [Act.put, List.setIfInBounds_toArray, List.set_cons_zero, List.set_cons_succ]
      refine takC 16 (h := ?_)
      try simp only [Act.put, List.setIfInBounds_toArray, List.set_cons_zero, List.set_cons_succ]
      refine takA 17 (h := ?_)
      try simp only [Act.put, List.setIfInBounds_toArray, List.set_cons_zero, List.set_cons_succ]
      clear S5
      have YZ : Hid (W5.heap[w2.heap.size]? = some (.cells #[.slice none 0 0, .int .i64 0, .slice none 0 0, .slice none 0 0] 41 (0, 0))) := Lib.hid ((b5.out.block _ (lt_of_block YA.out)).trans YA.out)
      have BW := Q5
      have OW : Hid (RunO W5 (fun i => W4.heap.size ≤ i ∧ i < W5.heap.size) q x.1) := Lib.hid o5.out.here
      have YL : Hid (w1.heap.size ≤ w2.heap.size ∧ w.heap.size < w1.heap.size ∧ w1.heap.size ≤ W4.heap.size ∧ w2.heap.size < W4.heap.size) := Lib.hid ⟨B12.out.size, LX.out, D4.out.size, lt_of_block YA.out⟩
      have yz := obj4 YZ.out
      obtain ⟨⟨z0, z1, z2, z3⟩, f0, f1, f2, f3⟩ := yz
      refine wpAnyC_one (i := 19) (oi := ?o8) ?hi8 (by kernel_rfl) ?step8
      case hi8 => (simp only [List.getElem?_toArray, List.getElem?_cons_zero, List.getElem?_cons_succ]; exact rfl)
      intro K' hK
      go_simp
      refine hK.out _ _ ?_ (fun hHeld => ?_)
      · exact fun h => (by cases h)
      clear hK K' hHeld
      try simp only [Act.put, List.setIfInBounds_toArray, List.set_cons_zero, List.set_cons_succ]
      clear z0 z1 z2 z3 f0 f1 f2 f3
      obtain ⟨W7, hW7⟩ : ∃ W7, W7 = S4 W5 (w2.heap.size) (.slice q.A an2 q.ca) (.int .i64 st2) (.slice q.T tn2 q.ct) (.slice q.S sn2 q.cs) := ⟨_, rfl⟩
      have Y7 : Hid (W7.heap[w2.heap.size]? = some (.cells #[.slice q.A an2 q.ca, .int .i64 st2, .slice q.T tn2 q.ct, .slice q.S sn2 q.cs] 41 (0, 0))) := Lib.hid (by rw [hW7]; exact S4.at_ YZ.out _ _ _ _)
      have K7 : Hid (∀ i, i ≠ w2.heap.size → W7.heap[i]? = W5.heap[i]?) := Lib.hid fun i hi => by rw [hW7]; exact S4.else_ _ _ _ _ _ _ hi
      have S7 : Hid (W7.heap.size = W5.heap.size) := Lib.hid (by rw [hW7]; exact S4.size_ _ _ _ _ _ _)
      have B7 : Hid (Below w1.heap.size w1 W7) := Lib.hid (by rw [hW7]; exact S4.below BW.out YL.out.1 _ _ _ _)
      have O7 : Hid (RunO W7 (fun i => W4.heap.size ≤ i ∧ i < W5.heap.size) q x.1) := Lib.hid (OW.out.keep (Nat.le_of_eq S7.out.symm) fun i hi _ => K7.out i (by have := YL.out; have := hi.1; have := hi.2; omega))
      rw [S4.lit, ← hW7]
      clear hW7
      refine wpAnyC_one (i := 20) (oi := ?o9) ?hi9 (by kernel_rfl) ?step9
      case hi9 => (simp only [List.getElem?_toArray, List.getElem?_cons_zero, List.getElem?_cons_succ]; exact rfl)
      intro K' hK
      go_simp
      refine hK.out _ _ ?_ (fun hHeld => ?_)
      · exact fun h => (by cases h)
      clear hK K' hHeld
      try simp only [Act.put, List.setIfInBounds_toArray, List.set_cons_zero, List.set_cons_succ]
      refine wpAnyC_done (by kernel_rfl) ?_ _
      by_cases hx : er = 0
      · subst hx
        have R : Hid (v = 0) := V2
        have RS' : Hid (s2 = { s with runs := s.runs.modify k fun q => (x.1, q.2) }) := Lib.hid (by rw [VT.out, if_pos R.out])
        have c2 := (SD.out _ B7.out).2.1
        have v1 := (SD.out _ B7.out).2.2.2.2.1
        obtain ⟨⟨z0, z1, z2, z3⟩, -⟩ := obj4 Y7.out
        have P7 := Lib.hid (H1.out.on B7.out)
        go_upto_region 6 with (fail)
        have SE : Hid (W7.drew.cell? ⟨g, 2, none⟩ = some (.slice (some ⟨b, 0, none⟩) m a.cr) ∧ W7.drew.cell? ⟨w.heap.size, 1, none⟩ = some (.int .i64 (k + 1)) ∧ W7.drew.cell? ⟨w2.heap.size, 0, none⟩ = some (.slice q.A an2 q.ca) ∧ W7.drew.cell? ⟨w2.heap.size, 1, none⟩ = some (.int .i64 st2) ∧ W7.drew.cell? ⟨w2.heap.size, 2, none⟩ = some (.slice q.T tn2 q.ct) ∧ W7.drew.cell? ⟨w2.heap.size, 3, none⟩ = some (.slice q.S sn2 q.cs)) := Lib.hid ⟨c2, v1, z0, z1, z2, z3⟩
        refine wp_region_C (fun w' => w'.cell? ⟨g, 2, none⟩ = some (.slice (some ⟨b, 0, none⟩) m a.cr) ∧ w'.cell? ⟨w.heap.size, 1, none⟩ = some (.int .i64 (k + 1)) ∧ w'.cell? ⟨w2.heap.size, 0, none⟩ = some (.slice q.A an2 q.ca) ∧ w'.cell? ⟨w2.heap.size, 1, none⟩ = some (.int .i64 st2) ∧ w'.cell? ⟨w2.heap.size, 2, none⟩ = some (.slice q.T tn2 q.ct) ∧ w'.cell? ⟨w2.heap.size, 3, none⟩ = some (.slice q.S sn2 q.cs)) 9 (by kernel_rfl) ?_
        have hS0 : (fun w' : World => w'.cell? ⟨g, 2, none⟩ = some (.slice (some ⟨b, 0, none⟩) m a.cr) ∧ w'.cell? ⟨w.heap.size, 1, none⟩ = some (.int .i64 (k + 1)) ∧ w'.cell? ⟨w2.heap.size, 0, none⟩ = some (.slice q.A an2 q.ca) ∧ w'.cell? ⟨w2.heap.size, 1, none⟩ = some (.int .i64 st2) ∧ w'.cell? ⟨w2.heap.size, 2, none⟩ = some (.slice q.T tn2 q.ct) ∧ w'.cell? ⟨w2.heap.size, 3, none⟩ = some (.slice q.S sn2 q.cs)) W7.drew := SE.out
        clear c2 v1 z0 z1 z2 z3
        refine takC 0 (h := ?_)
        try simp only [Act.put, List.setIfInBounds_toArray, List.set_cons_zero, List.set_cons_succ]
        refine takC 1 (h := ?_)
        try simp only [Act.put, List.setIfInBounds_toArray, List.set_cons_zero, List.set_cons_succ]
        refine takC 2 (h := ?_)
        try simp only [Act.put, List.setIfInBounds_toArray, List.set_cons_zero, List.set_cons_succ]
        refine takC 3 (h := ?_)
        try simp only [Act.put, List.setIfInBounds_toArray, List.set_cons_zero, List.set_cons_succ]
        refine takC 4 (h := ?_)
        try simp only [Act.put, List.setIfInBounds_toArray, List.set_cons_zero, List.set_cons_succ]
        refine takC 5 (h := ?_)
        try simp only [Act.put, List.setIfInBounds_toArray, List.set_cons_zero, List.set_cons_succ]
        refine takC 6 (h := ?_)
        try simp only [Act.put, List.setIfInBounds_toArray, List.set_cons_zero, List.set_cons_succ]
        refine takC 7 (h := ?_)
        try simp only [Act.put, List.setIfInBounds_toArray, List.set_cons_zero, List.set_cons_succ]
        have row5 := P7.out.runs
        rw [HA.out] at row5
        have ff := fun i => row5.thawed i
        have hf0 := ff (k * 4)
        have hf1 := ff (k * 4 + 1)
        have hf2 := ff (k * 4 + 2)
        have hf3 := ff (k * 4 + 3)
        obtain ⟨y0, y1, y2, y3⟩ := rsV_cells row5 HK.out
        clear ff row5
        refine wpAnyC_one (i := 8) (oi := ?o10) ?hi10 (by kernel_rfl) ?step10
        case hi10 => (simp only [List.getElem?_toArray, List.getElem?_cons_zero, List.getElem?_cons_succ]; exact rfl)
        intro K' hK
        go_simp
        refine hK.out _ _ ?_ (fun hHeld => ?_)
        · exact fun _ => SE.out
        clear hK K' hHeld
        try simp only [Act.put, List.setIfInBounds_toArray, List.set_cons_zero, List.set_cons_succ]
        refine wpAnyC_one (i := 9) (oi := ?o11) ?hi11 (by kernel_rfl) ?step11
        case hi11 => (simp only [List.getElem?_toArray, List.getElem?_cons_zero, List.getElem?_cons_succ]; exact rfl)
        intro K' hK
        go_simp
        refine hK.out _ _ ?_ (fun hHeld => ?_)
        · exact fun h => (by cases h)
        clear hK K' hHeld
        try simp only [Act.put, List.setIfInBounds_toArray, List.set_cons_zero, List.set_cons_succ]
        refine wpAnyC_done (by kernel_rfl) ?_ _
        clear hf0 hf1 hf2 hf3 y0 y1 y2 y3
        have ST : Hid (∃ a', FPM (RS W7.drew b k q an2 st2 tn2 sn2) g a' { s with runs := s.runs.modify k fun q => (x.1, q.2) } ∧ StepM g a a' w (RS W7.drew b k q an2 st2 tn2 sn2)) := Lib.hid (by
          have sz := B1.out.size
          obtain ⟨p6, q6⟩ := P7.out.drew.setRun HA.out HK.out (r := x.1) (p := q) (N := fun i => W4.heap.size ≤ i ∧ i < W5.heap.size) (O7.out.on (Below.refl _ _).drew) fun i hi => ⟨by have := YL.out; have := S7.out; have h2 : W7.drew.heap.size = W7.heap.size := rfl; omega, fun hm => by have := H.out.lt i (.inl hm); have := YL.out; omega⟩
          rw [RR.out.1, RR.out.2.1, RR.out.2.2.1, RR.out.2.2.2] at p6 q6
          refine ⟨_, p6, ⟨(Only.of (B1.out.trans (B7.out.drew.mono B1.out.size))).trans q6 fun i hi => .inl hi, fun i hi => .inl hi, fun i hi => ?_⟩⟩
          rcases hi with hi | hi
          · exact .inl hi
          · exact .inr (by have := YL.out; have := hi.1; omega))
        go_wp2
        rw [RS.lit]
        go_ret
        rw [RS'.out]
        exact ⟨by rw [R.out]; rfl, ST⟩
      · have hx2 : (er != 0) = true := by simpa using hx
        have RS' : Hid (s2 = s) := Lib.hid (by rw [VT.out, if_neg (by rw [V2.out]; exact hx)])
        clear hx
        go_wp2
        go_ret
        rw [RS'.out]
        exact ActG.same H.out (B1.out.trans (B7.out.mono B1.out.size)) V2.out.symm
end Go.Proofs.YtkbekojnmdgdgaaGreatDoor
/- FlApply -/
namespace Go.Proofs.YtkbekojnmdgdgaaGreatDoor
open Go.RowKit Go.Maps
set_option maxRecDepth 20000
theorem ActG.ahead {w W w' : World} {g : Nat} {a : FAt} {x : Int} {s' : Fw.S} {r : Ending} (hb : Below w.heap.size w W) (h : ActG W g a x s' r w') : ActG w g a x s' r w' := by
  obtain ⟨h1, h2⟩ := h
  refine ⟨h1, Lib.hid ?_⟩
  obtain ⟨a', p, q⟩ := h2.out
  exact ⟨a', p, StepM.ahead hb q⟩
set_option maxHeartbeats 2000000 in
theorem apply_any {w : World} {g : Nat} {a : FAt} {s : Fw.S} (h : FPM w g a s) (hI : Fw.Inv s) (hF : FactsE w) (e : Ev.E) (he : EvIn e) :
    Calls Tryz.prog 11 #[.pointer (some ⟨g, 0, none⟩), .agg (evc e)] w (ActG w g a (Fw.err s e) (Fw.step s e)) := by
  obtain ⟨w1, hw1⟩ : ∃ w1, w1 = w.alloc (.cells (evc e) 28) := ⟨_, rfl⟩
  have B1 : Hid (Below w.heap.size w w1) := Lib.hid (by rw [hw1]; exact (Below.refl _ _).alloc (Nat.le_refl _) _)
  have X1 : Hid (w1.heap[w.heap.size]? = some (.cells (evc e) 28 (0, 0))) := Lib.hid (by rw [hw1]; exact evBox _ _ _)
  have CG := Lib.hid (good_p e he w1 (hF.on B1.out).s)
  have C1 := Lib.hid (fun W (hW : Below w.heap.size w W) => define_any (h.on hW) (hF.on hW) e he)
  have C2 := Lib.hid (fun W (hW : Below w.heap.size w W) => start_any (h.on hW) hI (hF.on hW) e he)
  have C3 := Lib.hid (fun W (hW : Below w.heap.size w W) (hg : Ev.Good e) => tick_any (h.on hW) hI e.n hg.fits.n.1 (by have := hg.fits.n.2; unfold Rn.tickMax; omega))
  have C4 := Lib.hid (fun W (hW : Below w.heap.size w W) (hg : Ev.Good e) (h1 : 1 ≤ e.run) => change_any (h.on hW) hI e he h1 (by have := hg.fits.a; omega) (by have := hg.fits.d; omega))
  have H := Lib.hid h
  have GD : Hid (Ev.good e = true → Ev.Good e) := Lib.hid Ev.good_iff.1
  have V : Hid (Fw.err s e = if Ev.good e = true then (if e.kind = 1 then Fw.defineE s e else if e.kind = 2 then Fw.startE s e else if e.kind = 6 then (if e.n ≤ s.clock then 10 else 0) else if e.kind = 9 then 0 else Fw.actE s e) else 1) := Lib.hid rfl
  have VS : Hid (Fw.step s e = if Fw.err s e = 0 then (if e.kind = 1 then Fw.defineS s e else if e.kind = 2 then Fw.startS s e else if e.kind = 6 then Fw.tickS s e.n else if e.kind = 9 then s else Fw.actS s e) else s) := Lib.hid rfl
  have R1 : Hid (∀ (hg : Ev.Good e), e.kind ≠ 1 → e.kind ≠ 2 → e.kind ≠ 6 → e.kind ≠ 9 → 1 ≤ e.run) := Lib.hid fun hG k1 k2 k6 k9 => by
    have hk := hG.kind
    have hc : e.kind = 3 ∨ e.kind = 4 ∨ e.kind = 5 ∨ e.kind = 7 ∨ e.kind = 8 := by omega
    have hw := Ev.within_in hG.run
    rcases hw with ⟨_, h1, _⟩ | ⟨h1, _⟩
    · exact h1
    · rcases hc with hc | hc | hc | hc | hc <;> rw [hc] at h1 <;> exact absurd h1 (by decide)
  obtain ⟨v0, v1, v2, v3, v4, v5, v6, v7⟩ := ev8 X1.out
  generalize Fw.err s e = v at *
  generalize Fw.step s e = s2 at *
  clear h hI hF he
  obtain ⟨b, hb⟩ : ∃ b, b = Ev.good e := ⟨_, rfl⟩
  rw [← hb] at CG V GD
  clear hb
  unfold evc at hw1 CG C1 C2 C4 ⊢
  go_enter Tryz.func11, Tryz.ntmps11
  go_upto_region 1 with (fail)
  rw [← hw1]
  clear hw1
  go_wp2_with fail
  refine CG.out.mono ?_; rintro r w2 ⟨rfl, b2⟩
  have B2 : Hid (Below w.heap.size w w2) := Lib.hid (B1.out.trans (b2.mono B1.out.size))
  have X2 := (b2.block _ (lt_of_block X1.out)).trans X1.out
  clear v0 v1 v2 v3 v4 v5 v6 v7 CG X1 B1 b2
  cases b with
  | false =>
    have R : Hid (v = 1) := Lib.hid (by rw [V.out, if_neg (by decide)])
    have RS' : Hid (s2 = s) := Lib.hid (by rw [VS.out, if_neg (by rw [R.out]; decide)])
    clear V VS C1 C2 C3 C4 X2
    go_wp2
    go_ret
    rw [RS'.out]
    exact ActG.same H.out B2.out R.out.symm
  | true =>
    have G := Lib.hid (GD.out rfl)
    obtain ⟨v0, v1, v2, v3, v4, v5, v6, v7⟩ := ev8 X2
    clear X2
    by_cases k1 : e.kind = 1
    · have R : Hid (v = Fw.defineE s e) := Lib.hid (by rw [V.out, if_pos rfl, if_pos k1])
      have RS' : Hid (s2 = Fw.defS s e) := Lib.hid (by rw [VS.out, if_pos k1, R.out]; rfl)
      have CC := Lib.hid (C1.out w2 B2.out)
      rw [← R.out, ← RS'.out] at CC
      clear V VS C1 C2 C3 C4 R RS' R1
      rw [k1] at v0 CC
      clear k1
      go_wp2_with fail
      refine (CC.out).mono ?_; rintro r w3 h3
      have A3 := Lib.hid (h3.ahead B2.out)
      obtain ⟨rfl, -⟩ := h3
      go_wp2
      go_ret
      exact ⟨rfl, A3.out.2⟩
    have n1 : (e.kind == 1) = false := by simpa using k1
    by_cases k2 : e.kind = 2
    · have R : Hid (v = Fw.startE s e) := Lib.hid (by rw [V.out, if_pos rfl, if_neg k1, if_pos k2])
      have RS' : Hid (s2 = Fw.staS s e) := Lib.hid (by rw [VS.out, if_neg k1, if_pos k2, R.out]; rfl)
      have CC := Lib.hid (C2.out w2 B2.out)
      rw [← R.out, ← RS'.out] at CC
      clear V VS C1 C2 C3 C4 R RS' R1 n1 k1
      rw [k2] at v0 CC
      clear k2
      go_wp2_with fail
      refine (CC.out).mono ?_; rintro r w3 h3
      have A3 := Lib.hid (h3.ahead B2.out)
      obtain ⟨rfl, -⟩ := h3
      go_wp2
      go_ret
      exact ⟨rfl, A3.out.2⟩
    have n2 : (e.kind == 2) = false := by simpa using k2
    by_cases k6 : e.kind = 6
    · have R : Hid (v = if e.n ≤ s.clock then 10 else 0) := Lib.hid (by rw [V.out, if_pos rfl, if_neg k1, if_neg k2, if_pos k6])
      have RS' : Hid (s2 = if e.n ≤ s.clock then s else Fw.tickS s e.n) := Lib.hid (by
        rw [VS.out, R.out, if_neg k1, if_neg k2, if_pos k6]
        by_cases hc : e.n ≤ s.clock
        · rw [if_pos hc, if_pos hc, if_neg (by decide)]
        · rw [if_neg hc, if_neg hc, if_pos rfl])
      have CC := Lib.hid (C3.out w2 B2.out G.out)
      rw [← R.out, ← RS'.out] at CC
      clear V VS C1 C2 C3 C4 R RS' R1 n1 n2 k1 k2
      rw [k6] at v0
      clear k6
      go_wp2_with fail
      refine (CC.out).mono ?_; rintro r w3 h3
      have A3 := Lib.hid (h3.ahead B2.out)
      obtain ⟨rfl, -⟩ := h3
      go_wp2
      go_ret
      exact ⟨rfl, A3.out.2⟩
    have n6 : (e.kind == 6) = false := by simpa using k6
    by_cases k9 : e.kind = 9
    · have R : Hid (v = 0) := Lib.hid (by rw [V.out, if_pos rfl, if_neg k1, if_neg k2, if_neg k6, if_pos k9])
      have RS' : Hid (s2 = s) := Lib.hid (by rw [VS.out, if_neg k1, if_neg k2, if_neg k6, if_pos k9, if_pos R.out])
      clear V VS C1 C2 C3 C4 R1 n1 n2 n6 k1 k2 k6
      rw [k9] at v0
      clear k9
      go_wp2
      go_ret
      rw [RS'.out]
      exact ActG.same H.out B2.out R.out.symm
    have n9 : (e.kind == 9) = false := by simpa using k9
    have R : Hid (v = Fw.actE s e) := Lib.hid (by rw [V.out, if_pos rfl, if_neg k1, if_neg k2, if_neg k6, if_neg k9])
    have RS' : Hid (s2 = Fw.actT s e) := Lib.hid (by rw [VS.out, if_neg k1, if_neg k2, if_neg k6, if_neg k9, R.out]; rfl)
    have CC := Lib.hid (C4.out w2 B2.out G.out (R1.out G.out k1 k2 k6 k9))
    rw [← R.out, ← RS'.out] at CC
    clear V VS C1 C2 C3 C4 R RS' R1 k1 k2 k6 k9
    go_wp2_with fail
    refine (CC.out).mono ?_; rintro r w3 h3
    have A3 := Lib.hid (h3.ahead B2.out)
    obtain ⟨rfl, -⟩ := h3
    go_wp2
    go_ret
    exact ⟨rfl, A3.out.2⟩
end Go.Proofs.YtkbekojnmdgdgaaGreatDoor
/- FlAll -/
namespace Go.Proofs.YtkbekojnmdgdgaaGreatDoor
open Go.RowKit Go.Maps
set_option maxRecDepth 20000
def MadeF (w : World) (g : Nat) (s : Fw.S) (wr : World) : Prop := ∃ a, FPM wr g a s ∧ (∀ i, mine g a i ∨ a.Q i → w.heap.size ≤ i) ∧ Below w.heap.size w wr
theorem MadeF.step {w wr W : World} {g : Nat} {s s' : Fw.S} {a a' : FAt} (_h : FPM wr g a s) (hm : ∀ i, mine g a i ∨ a.Q i → w.heap.size ≤ i) (hb : Below w.heap.size w wr) (p : FPM W g a' s') (q : StepM g a a' wr W) : MadeF w g s' W := by
  refine ⟨a', p, fun i hi => ?_, hb.trans (q.only.below hb.size fun k hk => hm k (.inl hk))⟩
  rcases hi with hi | hi
  · rcases q.m i hi with h1 | h1
    · exact hm i (.inl h1)
    · exact Nat.le_trans hb.size h1
  · rcases q.q i hi with h1 | h1
    · exact hm i (.inr h1)
    · exact Nat.le_trans hb.size h1
set_option maxHeartbeats 2000000 in
theorem flowAll_any (l : List Ev.E) (A : Option Addr) (c : Nat) (w : World) (hF : FactsE w) (hA : EvsR w w.heap.size A l) (hl : l.length ≤ c) (h9 : l.length ≤ 1000) :
    Calls Tryz.prog 17 #[.slice A l.length c] w fun e w' => ∃ g M R, e = .returned (.pointer (some ⟨g, 0, none⟩)) ∧ FP w' g M R (Fw.all l) ∧ (∀ i, R i → w.heap.size ≤ i) ∧ Below w.heap.size w w' := by
  have CN := Lib.hid (flowNew_any w)
  have HF := Lib.hid hF
  have HA := Lib.hid hA
  obtain ⟨m, hm⟩ : ∃ m, m = l.length := ⟨_, rfl⟩
  have HM := Lib.hid hm
  rw [← hm] at h9 ⊢
  clear hF hA hl hm
  go_enter Tryz.func17, Tryz.ntmps17
  go_wp2_with fail
  refine CN.out.mono ?_; rintro e w1 ⟨g, M, R, rfl, ⟨a, hp, hM, hR⟩, hr, hb⟩
  have I0 : Hid (MadeF w g (Fw.all (l.take 0)) w1) := Lib.hid ⟨a, hp, fun i hi => hr i ((hR i).2 hi), hb⟩
  clear hp hM hR hr hb CN
  go_wp2_with fail
  go_loopw [9] (fun iv wr => ∃ k : Nat, k ≤ m ∧ iv = .int .i64 k ∧ Hid (MadeF w g (Fw.all (l.take k)) wr)) (fun iv _ => m - (intOf iv).toNat)
  case atStart => exact ⟨0, Nat.zero_le _, rfl, I0⟩
  case round =>
    obtain ⟨k, hk, rfl, HI⟩ := hrel
    by_cases hlt : k < m
    · have hlt' : (k : Int) < (m : Int) := by omega
      have HK : Hid (k < l.length) := Lib.hid (by rw [← HM.out]; exact hlt)
      obtain ⟨a', p', mk, bw⟩ := HI.out
      have P := Lib.hid p'
      have MK := Lib.hid mk
      have BW := Lib.hid bw
      obtain ⟨b, off, kd, ru, ta, tr, nn, na, ke, da, hA, hlb, he, hin, e0, e1, e2, e3, e4, e5, e6, e7⟩ := ((HA.out.below bw).more bw.size).ev HK.out
      have INV : Hid (Fw.Inv (Fw.all (l.take k))) := Lib.hid (Fw.inv_all _ _ Fw.inv_new)
      have NX : Hid (Fw.step (Fw.all (l.take k)) ⟨kd, ru, ta, tr, nn, na, ke, da⟩ = Fw.all (l.take (k + 1))) := Lib.hid (by
        obtain ⟨h1, h2⟩ := List.getElem?_eq_some_iff.1 he.out
        rw [List.take_succ_eq_append_getElem h1, h2]
        unfold Fw.all
        rw [List.foldl_append]
        rfl)
      obtain ⟨w2, hw2⟩ : ∃ w2, w2 = wr.alloc (.cells (evc ⟨kd, ru, ta, tr, nn, na, ke, da⟩) 28) := ⟨_, rfl⟩
      have B2 : Hid (Below wr.heap.size wr w2) := Lib.hid (by rw [hw2]; exact (Below.refl _ _).alloc (Nat.le_refl _) _)
      have X2 : Hid (w2.heap[wr.heap.size]? = some (.cells (evc ⟨kd, ru, ta, tr, nn, na, ke, da⟩) 28 (0, 0))) := Lib.hid (by rw [hw2]; exact evBox _ _ _)
      have AP := Lib.hid (apply_any (P.out.on B2.out) INV.out ((HF.out.on bw).on B2.out) ⟨kd, ru, ta, tr, nn, na, ke, da⟩ hin.out)
      rw [NX.out] at AP
      generalize Fw.err (Fw.all (l.take k)) ⟨kd, ru, ta, tr, nn, na, ke, da⟩ = er at *
      obtain ⟨s2, hs2⟩ : ∃ s2, s2 = Fw.all (l.take (k + 1)) := ⟨_, rfl⟩
      have S2 := Lib.hid hs2
      rw [← hs2] at AP
      clear hs2
      subst hA
      clear p' mk bw hlb he hin HI NX
      unfold evc at AP hw2
      dsimp only at AP hw2
      go_upto_region 5 with (fail)
      rw [← hw2]
      clear hw2 e0 e1 e2 e3 e4 e5 e6 e7
      obtain ⟨v0, v1, v2, v3, v4, v5, v6, v7⟩ := ev8 X2.out
      dsimp only at v0 v1 v2 v3 v4 v5 v6 v7
      go_wp2_with fail
      refine (AP.out).mono ?_; rintro r w3 h3
      have I3 : Hid (MadeF w g s2 w3) := Lib.hid (by
        obtain ⟨a2, p2, q2⟩ := (h3.ahead B2.out).2.out
        exact MadeF.step P.out MK.out BW.out p2 q2)
      obtain ⟨rfl, -⟩ := h3
      clear v0 v1 v2 v3 v4 v5 v6 v7 AP
      go_wp2
      go_roundw
      case rel => exact ⟨k + 1, by omega, by go_num, by rw [← S2.out]; exact I3⟩
      case measure => simp [intOf]; omega
    · obtain rfl : k = m := by omega
      have hge : ¬ (k : Int) < (k : Int) := by omega
      go_wp2
      go_ret
      obtain ⟨a', p', mk, bw⟩ := HI.out
      rw [HM.out, List.take_length] at p'
      exact ⟨g, rfl, mine g a', fun i => mine g a' i ∨ a'.Q i, p'.fp, mk, bw⟩
end Go.Proofs.YtkbekojnmdgdgaaGreatDoor
/- FlProg -/
namespace Go.Proofs.YtkbekojnmdgdgaaGreatDoor
open Go.RowKit
section
variable {w : World} {g : Nat} {M R : Nat → Prop} {s : Fw.S}
theorem Fw.Inv.sound (h : Fw.Inv s) : Sound s where
  bd := fun p hp => Bd.of (h.rok p hp).1.toInv.toPre
  st := fun p hp => by have h1 := (h.rok p hp).1.toInv; have h2 := h1.st0; have h3 := h1.st3; exact ⟨by omega, by omega⟩
  ki := h.ki
  c := by have h1 := h.c0; have h2 := h.c1; exact ⟨by omega, by omega⟩
  nd := fun p hp => by
    have h1 := (Df.isName_len (l := Fw.tx p.1) (h.dok p hp).1).2
    exact Nat.le_trans (Nat.le_of_eq (Array.length_toList ..).symm) h1
  no := fun p hp => by
    have h2 := Fw.look_mem (h.rok p hp).2
    have h1 := (Df.isName_len (l := Fw.tx p.2) (h.dok _ h2).1).2
    exact Nat.le_trans (Nat.le_of_eq (Array.length_toList ..).symm) h1
end
theorem flowApply_any (g : Nat) (M R : Nat → Prop) (s : Fw.S) (e : Ev.E) (w : World) (hF : FactsE w) (h : FP w g M R s) (hI : Fw.Inv s) (he : EvIn e) :
    Calls Tryz.prog 11 #[.pointer (some ⟨g, 0, none⟩), .agg (evc e)] w fun r w' => r = .returned (.int .i64 (Fw.err s e)) ∧ ∃ M2 R2, FP w' g M2 R2 (Fw.step s e) ∧ FStep M R M2 R2 w w' := by
  obtain ⟨a, h, hm, hr⟩ := h
  refine (apply_any h hI hF e he).mono ?_
  rintro r w' ⟨rfl, h2⟩
  obtain ⟨a', p, q⟩ := h2.out
  exact ⟨rfl, _, _, p.fp, q.step hm hr⟩
theorem flowClock_any (g : Nat) (M R : Nat → Prop) (s : Fw.S) (w : World) (h : FP w g M R s) :
    Calls Tryz.prog 21 #[.pointer (some ⟨g, 0, none⟩)] w fun e w' => e = .returned (.int .i64 s.clock) ∧ Hid (Below w.heap.size w w') := by
  obtain ⟨a, h, -, -⟩ := h
  exact clock_any h
theorem flowLen_any (g : Nat) (M R : Nat → Prop) (s : Fw.S) (w : World) (h : FP w g M R s) :
    Calls Tryz.prog 20 #[.pointer (some ⟨g, 0, none⟩)] w fun e w' => e = .returned (.int .i64 (s.runs.length : Int)) ∧ Hid (Below w.heap.size w w') := by
  obtain ⟨a, h, -, -⟩ := h
  exact len_any h
theorem flowKey_any (g : Nat) (M R : Nat → Prop) (s : Fw.S) (w : World) (h : FP w g M R s) (hI : Fw.Inv s) (n k : ByteArray) (hx : Ky.okk n k) :
    Calls Tryz.prog 14 #[.pointer (some ⟨g, 0, none⟩), .string n, .string k] w fun e w' => e = .returned (.tuple #[.int .i64 (Ky.getV (Fw.ks s) n k), .bool (Ky.getB (Fw.ks s) n k)]) ∧ Hid (Below w.heap.size w w') := by
  obtain ⟨a, h, -, -⟩ := h
  exact key_any h hI.ki n k hx
theorem flowFirst_any (g : Nat) (M R : Nat → Prop) (s : Fw.S) (w : World) (h : FP w g M R s) (hI : Fw.Inv s) :
    Calls Tryz.prog 13 #[.pointer (some ⟨g, 0, none⟩)] w fun e w' => e = .returned (.tuple #[.int .i64 (Fw.firstV s).1, .int .i64 (Fw.firstV s).2.1, .int .i64 (Fw.firstV s).2.2.1, .bool (Fw.firstV s).2.2.2]) ∧ Hid (Below w.heap.size w w') := by
  obtain ⟨a, h, -, -⟩ := h
  exact first_any h hI
theorem flowNext_any (g : Nat) (M R : Nat → Prop) (s : Fw.S) (w : World) (h : FP w g M R s) (hI : Fw.Inv s) :
    Calls Tryz.prog 12 #[.pointer (some ⟨g, 0, none⟩)] w fun e w' => e = .returned (.tuple #[.int .i64 ((Fw.nextV s).getD 0), .bool (Fw.nextV s).isSome]) ∧ Hid (Below w.heap.size w w') := by
  obtain ⟨a, h, -, -⟩ := h
  exact next_any h hI
theorem flowLive_any (g : Nat) (M R : Nat → Prop) (s : Fw.S) (w : World) (h : FP w g M R s) (_hI : Fw.Inv s) :
    Calls Tryz.prog 18 #[.pointer (some ⟨g, 0, none⟩)] w fun e w' => e = .returned (.int .i64 (Fw.liveV s)) ∧ Hid (Below w.heap.size w w') := by
  obtain ⟨a, h, -, -⟩ := h
  exact live_any h
theorem flowClone_any (g : Nat) (M R : Nat → Prop) (s : Fw.S) (w : World) (h : FP w g M R s) (hI : Fw.Inv s) :
    Calls Tryz.prog 16 #[.pointer (some ⟨g, 0, none⟩)] w fun e w' => ∃ g2 M2 R2, e = .returned (.pointer (some ⟨g2, 0, none⟩)) ∧ FP w' g2 M2 R2 s ∧ (∀ k, M2 k → w.heap.size ≤ k) ∧ (∀ k, R2 k → (R k ∧ ¬ M k) ∨ w.heap.size ≤ k) ∧ Below w.heap.size w w' := by
  obtain ⟨a, h, -, -⟩ := h
  exact (clone_any h hI.sound).mono fun e w' ⟨g2, M2, R2, h1, h2, h3, h4⟩ => ⟨g2, M2, R2, h1, h2, fun k hk => h3 k (h2.sub k hk), fun k hk => .inr (h3 k hk), h4⟩
theorem flowSame_any (g : Nat) (M R : Nat → Prop) (s : Fw.S) (g2 : Nat) (M2 R2 : Nat → Prop) (s2 : Fw.S) (w : World) (h : FP w g M R s) (hI : Fw.Inv s) (h2 : FP w g2 M2 R2 s2) (hI2 : Fw.Inv s2) (_hF : FactsE w) :
    Calls Tryz.prog 19 #[.pointer (some ⟨g, 0, none⟩), .pointer (some ⟨g2, 0, none⟩)] w fun e w' => e = .returned (.bool (decide (s = s2))) ∧ Hid (Below w.heap.size w w') := by
  obtain ⟨a, h, -, -⟩ := h
  obtain ⟨a2, h2, -, -⟩ := h2
  exact same_any h h2 hI hI2
end Go.Proofs.YtkbekojnmdgdgaaGreatDoor
/- FlOne -/
namespace Go.Proofs.YtkbekojnmdgdgaaGreatDoor
open Go.RowKit
def KeptF (G : Nat → Prop) (w w' : World) : Prop := w.heap.size ≤ w'.heap.size ∧ ∀ k, G k → w'.heap[k]? = w.heap[k]?
theorem KeptF.fewer {G G' : Nat → Prop} {w w' : World} (h : KeptF G w w') (hs : ∀ k, G' k → G k) : KeptF G' w w' := ⟨h.1, fun k hk => h.2 k (hs k hk)⟩
def noF (_ : Nat) : Prop := False
structure FOne (w0 w : World) (T : Nat) (s : Fw.S) (G : Nat → Prop) : Prop where
  mem : ∃ M R, FP w T M R s ∧ (∀ k, R k → w0.heap.size ≤ k) ∧ ∀ k, G k → ¬ M k
  below : Below w0.heap.size w0 w
  inv : Fw.Inv s
  gone : ∀ k, G k → k < w.heap.size
  facts : FactsE w0
section
variable {w0 w w' : World} {T : Nat} {s s' : Fw.S} {G G' : Nat → Prop}
theorem FOne.fe (h : FOne w0 w T s G) : FactsE w := h.facts.on h.below
theorem FOne.kept (h : FOne w0 w T s G) (hb : Below w.heap.size w w') : KeptF G w w' := ⟨hb.size, fun k hk => hb.block k (h.gone k hk)⟩
theorem FOne.join (h : FOne w0 w T s G) (hb : Below w.heap.size w w') (hs : ∀ k, G' k → G k ∨ (w.heap.size ≤ k ∧ k < w'.heap.size)) : FOne w0 w' T s G' := by
  obtain ⟨M, R, p, h1, h2⟩ := h.mem
  refine ⟨⟨M, R, p.keep hb.size fun i hi => hb.block i (p.lt i hi), h1, fun k hk hm => ?_⟩, h.below.trans (hb.mono h.below.size), h.inv, fun k hk => ?_, h.facts⟩
  · rcases hs k hk with h3 | h3
    · exact h2 k h3 hm
    · have := p.lt k (p.sub k hm); omega
  · rcases hs k hk with h3 | h3
    · exact Nat.lt_of_lt_of_le (h.gone k h3) hb.size
    · exact h3.2
theorem FOne.on (h : FOne w0 w T s G) (hb : Below w.heap.size w w') : FOne w0 w' T s G := h.join hb fun _ h => .inl h
theorem fNew (w : World) (hF : FactsE w) : Calls Tryz.prog 10 #[] w fun e w' => ∃ T, e = .returned (.pointer (some ⟨T, 0, none⟩)) ∧ Hid (FOne w w' T Fw.new noF) ∧ Hid (Below w.heap.size w w') :=
  (flowNew_any w).mono fun _ _ ⟨g, M, R, h1, h2, h3, h4⟩ => ⟨g, h1, Lib.hid ⟨⟨M, R, h2, h3, fun _ h => h.elim⟩, h4, Fw.inv_new, fun _ h => h.elim, hF⟩, Lib.hid h4⟩
theorem fAll (l : List Ev.E) (A : Option Addr) (c : Nat) (w : World) (hF : FactsE w) (hA : EvsR w w.heap.size A l) (hl : l.length ≤ c) (h9 : l.length ≤ 1000) {n : Nat} (hn : l.length = n) :
    Calls Tryz.prog 17 #[.slice A n c] w fun e w' => ∃ T, e = .returned (.pointer (some ⟨T, 0, none⟩)) ∧ Hid (FOne w w' T (Fw.all l) noF) ∧ Hid (Below w.heap.size w w') := by
  subst hn
  exact (flowAll_any l A c w hF hA hl h9).mono fun _ _ ⟨g, M, R, h1, h2, h3, h4⟩ => ⟨g, h1, Lib.hid ⟨⟨M, R, h2, h3, fun _ h => h.elim⟩, h4, Fw.inv_all l _ Fw.inv_new, fun _ h => h.elim, hF⟩, Lib.hid h4⟩
theorem fApply (h : FOne w0 w T s G) (e : Ev.E) (he : EvIn e) : Calls Tryz.prog 11 #[.pointer (some ⟨T, 0, none⟩), .agg (evc e)] w fun r w' => r = .returned (.int .i64 (Fw.err s e)) ∧ Hid (FOne w0 w' T (Fw.step s e) G) ∧ Hid (KeptF G w w') := by
  obtain ⟨M, R, p, h1, h2⟩ := h.mem
  refine (flowApply_any T M R s e w h.fe p h.inv he).mono ?_
  rintro r w' ⟨rfl, M2, R2, p2, st⟩
  have hk : KeptF G w w' := ⟨st.only.size, fun k hk => st.only.block k (h.gone k hk) (h2 k hk)⟩
  refine ⟨rfl, Lib.hid ⟨⟨M2, R2, p2, fun k hk => ?_, fun k hk hm => ?_⟩, h.below.trans (st.only.below h.below.size fun k hk => h1 k (p.sub k hk)), h.inv.step e, fun k hk => Nat.lt_of_lt_of_le (h.gone k hk) st.only.size, h.facts⟩, Lib.hid hk⟩
  · rcases st.r k hk with h3 | h3
    · exact h1 k h3
    · exact Nat.le_trans h.below.size h3
  · rcases st.m k hm with h3 | h3
    · exact h2 k hk h3
    · have := h.gone k hk; omega
theorem fApply' (h : FOne w0 w T s G) (e : Ev.E) (he : EvIn e) {x : Int} (hx : Fw.err s e = x) (hs : Fw.step s e = s') :
    Calls Tryz.prog 11 #[.pointer (some ⟨T, 0, none⟩), .agg (evc e)] w fun r w' => r = .returned (.int .i64 x) ∧ Hid (FOne w0 w' T s' G) ∧ Hid (KeptF G w w') := by
  subst hx hs
  exact fApply h e he
theorem fLen (h : FOne w0 w T s G) {n : Int} (hn : (s.runs.length : Int) = n) : Calls Tryz.prog 20 #[.pointer (some ⟨T, 0, none⟩)] w fun e w' => e = .returned (.int .i64 n) ∧ Hid (FOne w0 w' T s G) ∧ Hid (KeptF G w w') := by
  obtain ⟨M, R, p, h1, h2⟩ := h.mem
  subst hn
  exact (flowLen_any T M R s w p).mono fun e w' ⟨h6, h7⟩ => ⟨h6, Lib.hid (h.on h7.out), Lib.hid (h.kept h7.out)⟩
theorem fFirst (h : FOne w0 w T s G) {a b c : Int} {d : Bool} (hv : Fw.firstV s = (a, b, c, d)) : Calls Tryz.prog 13 #[.pointer (some ⟨T, 0, none⟩)] w fun e w' => e = .returned (.tuple #[.int .i64 a, .int .i64 b, .int .i64 c, .bool d]) ∧ Hid (FOne w0 w' T s G) ∧ Hid (KeptF G w w') := by
  obtain ⟨M, R, p, h1, h2⟩ := h.mem
  have := flowFirst_any T M R s w p h.inv
  rw [hv] at this
  exact this.mono fun e w' ⟨h6, h7⟩ => ⟨h6, Lib.hid (h.on h7.out), Lib.hid (h.kept h7.out)⟩
theorem fKey (h : FOne w0 w T s G) (n k : ByteArray) (hx : Ky.okk n k) {v : Int} {b : Bool} (hv : Ky.getV (Fw.ks s) n k = v) (hb : Ky.getB (Fw.ks s) n k = b) :
    Calls Tryz.prog 14 #[.pointer (some ⟨T, 0, none⟩), .string n, .string k] w fun e w' => e = .returned (.tuple #[.int .i64 v, .bool b]) ∧ Hid (FOne w0 w' T s G) ∧ Hid (KeptF G w w') := by
  obtain ⟨M, R, p, h1, h2⟩ := h.mem
  subst hv hb
  exact (flowKey_any T M R s w p h.inv n k hx).mono fun e w' ⟨h6, h7⟩ => ⟨h6, Lib.hid (h.on h7.out), Lib.hid (h.kept h7.out)⟩
end
end Go.Proofs.YtkbekojnmdgdgaaGreatDoor
/- FlAwake -/
namespace Go.Proofs.YtkbekojnmdgdgaaGreatDoor
open Go.RowKit
set_option maxRecDepth 20000
theorem EvIn.few {k r t y n : Int} (hk : 0 ≤ k ∧ k ≤ 100) (hr : 0 ≤ r ∧ r ≤ 100) (ht : 0 ≤ t ∧ t ≤ 100) (hy : 0 ≤ y ∧ y ≤ 100) (hn : 0 ≤ n ∧ n ≤ 4398046511104) {na ke da : ByteArray} (h1 : na.size ≤ 1000) (h2 : ke.size ≤ 1000) (h3 : da.size ≤ 1000) : EvIn ⟨k, r, t, y, n, na, ke, da⟩ :=
  ⟨⟨by show _ ≤ k; omega, by show k ≤ _; omega⟩, ⟨by show _ ≤ r; omega, by show r ≤ _; omega⟩, ⟨by show _ ≤ t; omega, by show t ≤ _; omega⟩, ⟨by show _ ≤ y; omega, by show y ≤ _; omega⟩, ⟨by show _ ≤ n; omega, by show n ≤ _; omega⟩, by show na.size ≤ _; omega, by show ke.size ≤ _; omega, by show da.size ≤ _; omega⟩
theorem EvIn.lit {e : Ev.E} (h : decide (((0 ≤ e.kind ∧ e.kind ≤ 100) ∧ (0 ≤ e.run ∧ e.run ≤ 100) ∧ (0 ≤ e.task ∧ e.task ≤ 100) ∧ (0 ≤ e.try_ ∧ e.try_ ≤ 100) ∧ (0 ≤ e.n ∧ e.n ≤ 4398046511104)) ∧ e.name.size ≤ 1000 ∧ e.key.size ≤ 1000 ∧ e.data.size ≤ 1000) = true) : EvIn e := by
  have h := of_decide_eq_true h
  obtain ⟨⟨h1, h2, h3, h4, h5⟩, h6, h7, h8⟩ := h
  exact EvIn.few h1 h2 h3 h4 h5 h6 h7 h8
section
variable {w0 w : World} {T : Nat} {s s' : Fw.S} {G : Nat → Prop}
theorem fPut (h : FOne w0 w T s G) (k r t y n : Int) (na ke da : ByteArray) (he : EvIn ⟨k, r, t, y, n, na, ke, da⟩) {x : Int} (hx : Fw.err s ⟨k, r, t, y, n, na, ke, da⟩ = x) (hs : Fw.step s ⟨k, r, t, y, n, na, ke, da⟩ = s') :
    Calls Tryz.prog 11 #[.pointer (some ⟨T, 0, none⟩), .agg #[.int .i64 k, .int .i64 r, .int .i64 t, .int .i64 y, .int .i64 n, .string na, .string ke, .string da]] w fun r w' => r = .returned (.int .i64 x) ∧ Hid (FOne w0 w' T s' G) ∧ Hid (KeptF G w w') :=
  fApply' h ⟨k, r, t, y, n, na, ke, da⟩ he hx hs
end
namespace Fw
def d0 : Df.D := [⟨[97], [], 0, 10, 1, []⟩]
def a1 : S := ⟨0, [(⟨#[100]⟩, d0)], [], []⟩
def a2 : S := ⟨0, [(⟨#[100]⟩, d0)], [(⟨d0, 0, [⟨1, 0, 0, []⟩], []⟩, ⟨#[100]⟩)], []⟩
theorem ae1 : err new ⟨1, 0, 0, 0, 0, ⟨#[100]⟩, ⟨#[]⟩, ⟨#[97]⟩⟩ = 0 := by decide +kernel
theorem as1 : step new ⟨1, 0, 0, 0, 0, ⟨#[100]⟩, ⟨#[]⟩, ⟨#[97]⟩⟩ = a1 := by decide +kernel
theorem ae2 : err a1 ⟨2, 1, 0, 0, 0, ⟨#[100]⟩, ⟨#[]⟩, ⟨#[]⟩⟩ = 0 := by decide +kernel
theorem as2 : step a1 ⟨2, 1, 0, 0, 0, ⟨#[100]⟩, ⟨#[]⟩, ⟨#[]⟩⟩ = a2 := by decide +kernel
theorem af2 : firstV a2 = (1, 0, 1, true) := by decide +kernel
end Fw
set_option maxHeartbeats 4000000 in
theorem awake_any (w : World) (hF : FactsE w) : Calls Tryz.prog 9 #[] w (BoolP w true) := by
  have NW := Lib.hid (fNew w hF)
  clear hF
  go_enter Tryz.func9, Tryz.ntmps9
  go_wp2_with fail
  (with_reducible refine NW.out.mono ?_); rintro e w1 ⟨T, rfl, O1, -⟩
  go_wp2_with fail
  (with_reducible refine (fPut O1.out 1 0 0 0 0 ⟨#[100]⟩ ⟨#[]⟩ ⟨#[97]⟩ (EvIn.lit (by decide)) Fw.ae1 Fw.as1).mono ?_); rintro e w2 ⟨rfl, O2, -⟩
  go_wp2_with fail
  (with_reducible refine (fPut O2.out 2 1 0 0 0 ⟨#[100]⟩ ⟨#[]⟩ ⟨#[]⟩ (EvIn.lit (by decide)) Fw.ae2 Fw.as2).mono ?_); rintro e w3 ⟨rfl, O3, -⟩
  go_wp2_with fail
  (with_reducible refine (fFirst O3.out Fw.af2).mono ?_); rintro e w4 ⟨rfl, O4, -⟩
  go_wp2_with fail
  (with_reducible refine (fLen O4.out (n := 1) rfl).mono ?_); rintro e w5 ⟨rfl, O5, -⟩
  go_wp2
  go_ret
  exact ⟨rfl, Lib.hid O5.out.below⟩
end Go.Proofs.YtkbekojnmdgdgaaGreatDoor
/- FlApart -/
namespace Go.Proofs.YtkbekojnmdgdgaaGreatDoor
open Go.RowKit
set_option maxRecDepth 20000
theorem fClone {w0 w : World} {T : Nat} {M R G : Nat → Prop} {s : Fw.S} (p : FP w T M R s) (h1 : ∀ k, R k → w0.heap.size ≤ k) (hb : Below w0.heap.size w0 w) (hI : Fw.Inv s) (hF : FactsE w0) (hG : ∀ k, G k → k < w.heap.size) :
    Calls Tryz.prog 16 #[.pointer (some ⟨T, 0, none⟩)] w fun e w' => ∃ T2, e = .returned (.pointer (some ⟨T2, 0, none⟩)) ∧ Hid (FOne w0 w' T2 s G) ∧ Hid (Below w.heap.size w w') := by
  refine (flowClone_any T M R s w p hI).mono ?_
  rintro e w' ⟨T2, M2, R2, rfl, q, hm, hr, hb2⟩
  refine ⟨T2, rfl, Lib.hid ⟨⟨M2, R2, q, fun k hk => ?_, fun k hk h2 => ?_⟩, hb.trans (hb2.mono hb.size), hI, fun k hk => Nat.lt_of_lt_of_le (hG k hk) hb2.size, hF⟩, Lib.hid hb2⟩
  · rcases hr k hk with h | h
    · exact h1 k h.1
    · exact Nat.le_trans hb.size h
  · have := hm k h2
    have := hG k hk
    omega
structure FRest (w : World) (T : Nat) (s : Fw.S) (R : Nat → Prop) : Prop where
  mem : ∃ M, FP w T M R s
  inv : Fw.Inv s
theorem FRest.lt {w : World} {T : Nat} {s : Fw.S} {R : Nat → Prop} (h : FRest w T s R) : ∀ k, R k → k < w.heap.size := by obtain ⟨M, p⟩ := h.mem; exact p.lt
theorem FRest.kept {w w' : World} {T : Nat} {s : Fw.S} {R : Nat → Prop} (h : FRest w T s R) (hk : KeptF R w w') : FRest w' T s R := by
  obtain ⟨M, p⟩ := h.mem
  exact ⟨⟨M, p.keep hk.1 hk.2⟩, h.inv⟩
theorem FRest.on {w w' : World} {T : Nat} {s : Fw.S} {R : Nat → Prop} (h : FRest w T s R) (hb : Below w.heap.size w w') : FRest w' T s R := h.kept ⟨hb.size, fun k hk => hb.block k (h.lt k hk)⟩
theorem FOne.rest {w0 w : World} {T : Nat} {s : Fw.S} {G : Nat → Prop} (h : FOne w0 w T s G) : ∃ R, FRest w T s R ∧ ∀ k, R k → w0.heap.size ≤ k := by
  obtain ⟨M, R, p, h1, h2⟩ := h.mem
  exact ⟨R, ⟨⟨M, p⟩, h.inv⟩, h1⟩
theorem fClone' {w0 w : World} {T : Nat} {R G : Nat → Prop} {s : Fw.S} (h : FRest w T s R) (h1 : ∀ k, R k → w0.heap.size ≤ k) (hb : Below w0.heap.size w0 w) (hF : FactsE w0) (hG : ∀ k, G k → k < w.heap.size) :
    Calls Tryz.prog 16 #[.pointer (some ⟨T, 0, none⟩)] w fun e w' => ∃ T2, e = .returned (.pointer (some ⟨T2, 0, none⟩)) ∧ Hid (FOne w0 w' T2 s G) ∧ Hid (Below w.heap.size w w') := by
  obtain ⟨M, p⟩ := h.mem
  exact fClone p h1 hb h.inv hF hG
theorem fSame {w : World} {T T2 : Nat} {R R2 : Nat → Prop} {s s2 : Fw.S} (h : FRest w T s R) (h2 : FRest w T2 s2 R2) (hF : FactsE w) {b : Bool} (hb : decide (s = s2) = b) :
    Calls Tryz.prog 19 #[.pointer (some ⟨T, 0, none⟩), .pointer (some ⟨T2, 0, none⟩)] w fun e w' => e = .returned (.bool b) ∧ Hid (Below w.heap.size w w') := by
  subst hb
  obtain ⟨M, p⟩ := h.mem
  obtain ⟨M2, p2⟩ := h2.mem
  exact flowSame_any T M R s T2 M2 R2 s2 w p h.inv p2 h2.inv hF
end Go.Proofs.YtkbekojnmdgdgaaGreatDoor
/- FlKnown -/
namespace Go.Proofs.YtkbekojnmdgdgaaGreatDoor
open Go.RowKit
set_option maxRecDepth 20000
theorem flowRun_any (g : Nat) (M R : Nat → Prop) (s : Fw.S) (w : World) (h : FP w g M R s) (hI : Fw.Inv s) (id : Int) (hid : inI id) :
    Calls Tryz.prog 15 #[.pointer (some ⟨g, 0, none⟩), .int .i64 id] w fun e w' => ∃ p, e = .returned (.tuple #[rv p (Fw.runV s id).1, .string (Fw.runV s id).2.1, .bool (Fw.runV s id).2.2]) ∧ Hid (RunO w' (since w) p (Fw.runV s id).1) ∧ Hid (Below w.heap.size w w') := by
  obtain ⟨a, h, -, -⟩ := h
  exact run_any h hI.sound id hid
section
variable {w0 w : World} {T : Nat} {s : Fw.S} {G : Nat → Prop}
theorem fRun (h : FOne w0 w T s G) (id : Int) (hid : inI id) {r : Rn.R} {na : ByteArray} {ok : Bool} (hv : Fw.runV s id = (r, na, ok)) {n m k : Nat} {st : Int} (hn : r.d.length = n) (hs : r.st = st) (hm : r.ts.length = m) (hk : r.sg.length = k) :
    Calls Tryz.prog 15 #[.pointer (some ⟨T, 0, none⟩), .int .i64 id] w fun e w' => ∃ p : At3, e = .returned (.tuple #[.agg #[.slice p.A n p.ca, .int .i64 st, .slice p.T m p.ct, .slice p.S k p.cs], .string na, .bool ok]) ∧ Hid (RunO w' (since w) p r) ∧ Hid (Below w.heap.size w w') := by
  obtain ⟨M, R, p, h1, h2⟩ := h.mem
  have := flowRun_any T M R s w p h.inv id hid
  rw [hv] at this
  subst hn hs hm hk
  exact this
theorem fNext (h : FOne w0 w T s G) {v : Int} (hv : Fw.nextV s = some v) : Calls Tryz.prog 12 #[.pointer (some ⟨T, 0, none⟩)] w fun e w' => e = .returned (.tuple #[.int .i64 v, .bool true]) ∧ Hid (FOne w0 w' T s G) ∧ Hid (KeptF G w w') := by
  obtain ⟨M, R, p, h1, h2⟩ := h.mem
  have := flowNext_any T M R s w p h.inv
  rw [hv] at this
  exact this.mono fun e w' ⟨h6, h7⟩ => ⟨h6, Lib.hid (h.on h7.out), Lib.hid (h.kept h7.out)⟩
theorem fLive {R : Nat → Prop} (h : FRest w T s R) {n : Int} (hn : Fw.liveV s = n) : Calls Tryz.prog 18 #[.pointer (some ⟨T, 0, none⟩)] w fun e w' => e = .returned (.int .i64 n) ∧ Hid (Below w.heap.size w w') := by
  obtain ⟨M, p⟩ := h.mem
  subst hn
  exact flowLive_any T M R s w p h.inv
theorem fLenR {R : Nat → Prop} (h : FRest w T s R) {n : Int} (hn : (s.runs.length : Int) = n) : Calls Tryz.prog 20 #[.pointer (some ⟨T, 0, none⟩)] w fun e w' => e = .returned (.int .i64 n) ∧ Hid (Below w.heap.size w w') := by
  obtain ⟨M, p⟩ := h.mem
  subst hn
  exact flowLen_any T M R s w p
theorem fClockR {R : Nat → Prop} (h : FRest w T s R) {n : Int} (hn : s.clock = n) : Calls Tryz.prog 21 #[.pointer (some ⟨T, 0, none⟩)] w fun e w' => e = .returned (.int .i64 n) ∧ Hid (Below w.heap.size w w') := by
  obtain ⟨M, p⟩ := h.mem
  subst hn
  exact flowClock_any T M R s w p
end
theorem EvsR.three {w : World} {b : Nat} {e f g : Ev.E} (h : w.heap[b]? = some (.cells (evc e ++ evc f ++ evc g) 28 (0, 0))) (he : EvIn e) (hf : EvIn f) (hg : EvIn g) : EvsR w w.heap.size (some ⟨b, 0, none⟩) [e, f, g] := by
  refine ⟨fun x hx => ?_, fun _ => ⟨b, 0, rfl, lt_of_block h, fun i hi => ?_⟩⟩
  · simp at hx
    rcases hx with rfl | rfl | rfl
    · exact he
    · exact hf
    · exact hg
  · have hx := h
    unfold evc at hx
    have hi' : i < 3 := hi
    rcases (show i = 0 ∨ i = 1 ∨ i = 2 by omega) with rfl | rfl | rfl <;> (refine ⟨?_, ?_, ?_, ?_, ?_, ?_, ?_, ?_⟩ <;> simp [World.cell?, hx])
theorem okk_dk : Ky.okk ⟨#[100]⟩ ⟨#[107]⟩ := ⟨by decide, by decide⟩
theorem in1 : inI 1 := ⟨by decide, by decide⟩
theorem in2 : inI 2 := ⟨by decide, by decide⟩
theorem task0 {w : World} {O : Nat → Prop} {p : At3} (h : RunO w O p Fw.kr2) : ∃ tb tq, p.T = some ⟨tb, tq, none⟩ ∧ Hid (O tb ∧ tb < w.heap.size) ∧ w.cell? ⟨tb, tq + 3, none⟩ = some (.string ⟨#[122]⟩) := by
  obtain ⟨b, off, e, ho, hb, hc⟩ := h.t.2 (show 0 < Fw.kr2.ts.length by decide)
  obtain ⟨_, _, _, h3⟩ := hc 0 (by decide)
  refine ⟨b, off, e, Lib.hid ⟨ho, hb⟩, ?_⟩
  have h4 : w.cell? ⟨b, off + 0 * 4 + 3, none⟩ = some (.string ⟨#[122]⟩) := h3
  rwa [Nat.zero_mul, Nat.add_zero] at h4
set_option maxHeartbeats 8000000 in
theorem known_walk (w : World) (hF : FactsE w) : Calls Tryz.prog 3 #[] w (BoolP w true) := by
  have AW := Lib.hid (awake_any w hF)
  have HF := Lib.hid hF
  clear hF
  go_enter Tryz.func3, Tryz.ntmps3
  go_wp2_with fail
  (with_reducible refine AW.out.mono ?_); rintro e w1 ⟨rfl, b1⟩
  have NW := Lib.hid (fNew w1 (HF.out.on b1.out))
  clear AW HF
  go_wp2_with fail
  (with_reducible refine NW.out.mono ?_); rintro e w2 ⟨T, rfl, O0, -⟩
  clear NW
  go_wp2_with fail
  (with_reducible refine (fPut O0.out 0 0 0 0 0 ⟨#[]⟩ ⟨#[]⟩ ⟨#[]⟩ (EvIn.lit (by decide)) Fw.kA.1 Fw.kA.2).mono ?_); rintro e w3 ⟨rfl, O1, -⟩
  clear O0
  go_wp2_with fail
  (with_reducible refine (fPut O1.out 1 0 0 0 0 ⟨#[100]⟩ ⟨#[]⟩ ⟨#[97, 32, 97]⟩ (EvIn.lit (by decide)) Fw.kB.1 Fw.kB.2).mono ?_); rintro e w4 ⟨rfl, O2, -⟩
  clear O1
  go_wp2_with fail
  (with_reducible refine (fPut O2.out 1 0 0 0 0 ⟨#[100]⟩ ⟨#[]⟩ ⟨#[97, 59, 98, 32, 97, 102, 116, 101, 114, 61, 97]⟩ (EvIn.lit (by decide)) Fw.kC.1 Fw.kC.2).mono ?_); rintro e w5 ⟨rfl, O3, -⟩
  clear O2
  go_wp2_with fail
  (with_reducible refine (fPut O3.out 1 0 0 0 0 ⟨#[100]⟩ ⟨#[]⟩ ⟨#[120]⟩ (EvIn.lit (by decide)) Fw.kD.1 Fw.kD.2).mono ?_); rintro e w6 ⟨rfl, O4, -⟩
  clear O3
  go_wp2_with fail
  (with_reducible refine (fPut O4.out 2 1 0 0 0 ⟨#[120]⟩ ⟨#[]⟩ ⟨#[]⟩ (EvIn.lit (by decide)) Fw.kE.1 Fw.kE.2).mono ?_); rintro e w7 ⟨rfl, O5, -⟩
  clear O4
  go_wp2_with fail
  (with_reducible refine (fPut O5.out 2 2 0 0 0 ⟨#[100]⟩ ⟨#[]⟩ ⟨#[]⟩ (EvIn.lit (by decide)) Fw.kG.1 Fw.kG.2).mono ?_); rintro e w8 ⟨rfl, O6, -⟩
  clear O5
  go_wp2_with fail
  (with_reducible refine (fPut O6.out 2 1 0 0 0 ⟨#[100]⟩ ⟨#[107]⟩ ⟨#[]⟩ (EvIn.lit (by decide)) Fw.kH.1 Fw.kH.2).mono ?_); rintro e w9 ⟨rfl, O7, -⟩
  clear O6
  go_wp2_with fail
  (with_reducible refine (fPut O7.out 2 2 0 0 0 ⟨#[100]⟩ ⟨#[107]⟩ ⟨#[]⟩ (EvIn.lit (by decide)) Fw.kI.1 Fw.kI.2).mono ?_); rintro e w10 ⟨rfl, O8, -⟩
  clear O7
  go_wp2_with fail
  (with_reducible refine (fPut O8.out 3 2 0 1 0 ⟨#[]⟩ ⟨#[]⟩ ⟨#[]⟩ (EvIn.lit (by decide)) Fw.kJ.1 Fw.kJ.2).mono ?_); rintro e w11 ⟨rfl, O9, -⟩
  clear O8
  go_wp2_with fail
  (with_reducible refine (fPut O9.out 3 1 0 1 0 ⟨#[]⟩ ⟨#[]⟩ ⟨#[]⟩ (EvIn.lit (by decide)) Fw.kK.1 Fw.kK.2).mono ?_); rintro e w12 ⟨rfl, O10, -⟩
  clear O9
  go_wp2_with fail
  (with_reducible refine (fPut O10.out 6 0 0 0 5 ⟨#[]⟩ ⟨#[]⟩ ⟨#[]⟩ (EvIn.lit (by decide)) Fw.kL.1 Fw.kL.2).mono ?_); rintro e w13 ⟨rfl, O11, -⟩
  clear O10
  go_wp2_with fail
  (with_reducible refine (fPut O11.out 6 0 0 0 5 ⟨#[]⟩ ⟨#[]⟩ ⟨#[]⟩ (EvIn.lit (by decide)) Fw.kM.1 Fw.kM.2).mono ?_); rintro e w14 ⟨rfl, O12, -⟩
  clear O11
  go_wp2_with fail
  (with_reducible refine (fNext O12.out Fw.kN).mono ?_); rintro e w15 ⟨rfl, O13, -⟩
  clear O12
  go_wp2_with fail
  (with_reducible refine (fPut O13.out 4 1 0 1 0 ⟨#[]⟩ ⟨#[]⟩ ⟨#[122]⟩ (EvIn.lit (by decide)) Fw.kO.1 Fw.kO.2).mono ?_); rintro e w16 ⟨rfl, O14, -⟩
  clear O13
  go_wp2_with fail
  (with_reducible refine (fPut O14.out 9 0 0 0 3 ⟨#[]⟩ ⟨#[]⟩ ⟨#[]⟩ (EvIn.lit (by decide)) Fw.kP.1 Fw.kP.2).mono ?_); rintro e w17 ⟨rfl, O15, -⟩
  clear O14
  go_wp2_with fail
  (with_reducible refine (fFirst O15.out Fw.kF).mono ?_); rintro e w18 ⟨rfl, O16, -⟩
  clear O15
  go_wp2_with fail
  (with_reducible refine (fKey O16.out ⟨#[100]⟩ ⟨#[107]⟩ okk_dk Fw.kQ.1 Fw.kQ.2).mono ?_); rintro e w19 ⟨rfl, O17, -⟩
  clear O16
  have RN := Lib.hid (fRun O17.out 1 in1 Fw.kR.1 (n := 2) (st := 0) (m := 2) (k := 0) rfl rfl rfl rfl)
  go_wp2_with fail
  (with_reducible refine RN.out.mono ?_); rintro e w20 ⟨⟨pA, pa, pT, pt, pS, ps⟩, rfl, R20, B20⟩
  obtain ⟨tb, tq, hT, hO, hd⟩ := task0 R20.out
  simp only at hT
  subst hT
  clear RN
  obtain ⟨w21, hw21⟩ : ∃ w21, w21 = w20.alloc (.cells #[.slice pA 2 pa, .int .i64 0, .slice (some ⟨tb, tq, none⟩) 2 pt, .slice pS 0 ps] 41) := ⟨_, rfl⟩
  obtain ⟨X, hX⟩ : ∃ X, X = w20.heap.size := ⟨_, rfl⟩
  have B21 : Hid (Below w20.heap.size w20 w21) := Lib.hid (by rw [hw21]; exact (Below.refl _ _).alloc (Nat.le_refl _) _)
  have X21 : Hid (w21.heap[X]? = some (.cells #[.slice pA 2 pa, .int .i64 0, .slice (some ⟨tb, tq, none⟩) 2 pt, .slice pS 0 ps] 41 (0, 0))) := Lib.hid (by rw [hw21, hX]; exact heap_alloc_new _ _)
  have D21 : Hid (w21.cell? ⟨tb, tq + 3, none⟩ = some (.string ⟨#[122]⟩)) := Lib.hid ((B21.out.cell (p := ⟨tb, tq + 3, none⟩) hO.out.2).trans hd)
  have O21 : Hid (FOne w1 w21 T Fw.k5 fun k => k = X ∨ k = tb) := Lib.hid (O17.out.join (B20.out.trans (B21.out.mono B20.out.size)) fun k hk => by
    have h1 := B20.out.size
    have h2 := lt_of_block X21.out
    have h3 := B21.out.size
    have h4 := hO.out.2
    have h5 : w19.heap.size ≤ tb := hO.out.1
    rcases hk with rfl | rfl
    · exact .inr ⟨by omega, h2⟩
    · exact .inr ⟨h5, by omega⟩)
  have HW := Lib.hid hw21
  have HX := Lib.hid hX
  clear hw21 hX hd O17 R20 B20
  go_upto_region 15 with (fail)
  rw [← HX.out, ← HW.out]
  have RN := Lib.hid (fRun O21.out 2 in2 Fw.kR.2 (n := 0) (st := 0) (m := 0) (k := 0) rfl rfl rfl rfl)
  go_wp2_with fail
  (with_reducible refine RN.out.mono ?_); rintro e w22 ⟨⟨qA, qa, qT, qt, qS, qs⟩, rfl, -, B22⟩
  clear RN
  obtain ⟨w23, hw23⟩ : ∃ w23, w23 = w22.alloc (.cells #[.slice qA 0 qa, .int .i64 0, .slice qT 0 qt, .slice qS 0 qs] 41) := ⟨_, rfl⟩
  have B23 : Hid (Below w21.heap.size w21 w23) := Lib.hid (by rw [hw23]; exact B22.out.alloc B22.out.size _)
  have HW3 := Lib.hid hw23
  clear hw23
  go_upto_region 16 with (fail)
  rw [← HW3.out]
  have O23 := Lib.hid (O21.out.on B23.out)
  obtain ⟨Rf, F23, sf⟩ := O23.out.rest
  have F23 := Lib.hid F23
  have hX23 := O23.out.gone X (.inl rfl)
  have htb23 := O23.out.gone tb (.inr rfl)
  have CL := Lib.hid (fClone' (G := fun k => Rf k ∨ k = X ∨ k = tb) F23.out sf O23.out.below O23.out.facts fun k hk => by
    rcases hk with hk | rfl | rfl
    · exact F23.out.lt k hk
    · exact hX23
    · exact htb23)
  have X23 : Hid (w23.heap[X]? = w21.heap[X]? ∧ w23.heap[tb]? = w21.heap[tb]?) := Lib.hid ⟨B23.out.block X (O21.out.gone X (.inl rfl)), B23.out.block tb (O21.out.gone tb (.inr rfl))⟩
  clear sf HW HW3 HX B21 B22 B23
  go_wp2_with fail
  (with_reducible refine CL.out.mono ?_); rintro e w24 ⟨c, rfl, C24, B24⟩
  have F24 := Lib.hid (F23.out.on B24.out)
  have X24 : Hid (w24.heap[X]? = w21.heap[X]? ∧ w24.heap[tb]? = w21.heap[tb]?) := Lib.hid ⟨(B24.out.block X hX23).trans X23.out.1, (B24.out.block tb htb23).trans X23.out.2⟩
  clear CL F23 X23 hX23 htb23
  go_wp2_with fail
  (with_reducible refine (fPut C24.out 8 1 0 0 0 ⟨#[]⟩ ⟨#[]⟩ ⟨#[]⟩ (EvIn.lit (by decide)) Fw.kT.1 Fw.kT.2).mono ?_); rintro e w25 ⟨rfl, C25, K25⟩
  have F25 := Lib.hid (F24.out.kept (K25.out.fewer fun _ h => .inl h))
  have X25 : Hid (w25.heap[X]? = w21.heap[X]? ∧ w25.heap[tb]? = w21.heap[tb]?) := Lib.hid ⟨(K25.out.2 X (.inr (.inl rfl))).trans X24.out.1, (K25.out.2 tb (.inr (.inr rfl))).trans X24.out.2⟩
  clear F24 X24 C24 K25
  obtain ⟨w26, hw26⟩ : ∃ w26, w26 = w25.alloc (.cells #[.int .i64 1, .int .i64 0, .int .i64 0, .int .i64 0, .int .i64 0, .string ⟨#[100]⟩, .string ⟨#[]⟩, .string ⟨#[97]⟩, .int .i64 0, .int .i64 0, .int .i64 0, .int .i64 0, .int .i64 0, .string ⟨#[]⟩, .string ⟨#[]⟩, .string ⟨#[]⟩, .int .i64 2, .int .i64 1, .int .i64 0, .int .i64 0, .int .i64 0, .string ⟨#[100]⟩, .string ⟨#[]⟩, .string ⟨#[]⟩] 28) := ⟨_, rfl⟩
  have B26 : Hid (Below w25.heap.size w25 w26) := Lib.hid (by rw [hw26]; exact (Below.refl _ _).alloc (Nat.le_refl _) _)
  have E26 : Hid (EvsR w26 w26.heap.size (some ⟨w25.heap.size, 0, none⟩) [Fw.ev 1 0 0 0 0 ⟨#[100]⟩ ⟨#[]⟩ ⟨#[97]⟩, Fw.ev 0 0 0 0 0 ⟨#[]⟩ ⟨#[]⟩ ⟨#[]⟩, Fw.ev 2 1 0 0 0 ⟨#[100]⟩ ⟨#[]⟩ ⟨#[]⟩]) :=
    Lib.hid (EvsR.three (by rw [hw26]; exact heap_alloc_new _ _) (EvIn.lit (by decide)) (EvIn.lit (by decide)) (EvIn.lit (by decide)))
  have AL := Lib.hid (fAll _ _ 3 w26 (C25.out.fe.on B26.out) E26.out (Nat.le_refl _) (by decide) (n := 3) rfl)
  rw [Fw.kV] at AL
  have HW6 := Lib.hid hw26
  clear hw26
  go_wp2_with fail
  rw [← HW6.out]
  (with_reducible refine AL.out.mono ?_); rintro e w27 ⟨a, rfl, A27, B27⟩
  have BB : Hid (Below w25.heap.size w25 w27) := Lib.hid (B26.out.trans (B27.out.mono B26.out.size))
  have hl21 := lt_of_block X21.out
  have X27 : Hid (w27.heap[X]? = w21.heap[X]? ∧ w27.heap[tb]? = w21.heap[tb]?) := Lib.hid ⟨(BB.out.block X (C25.out.gone X (.inr (.inl rfl)))).trans X25.out.1, (BB.out.block tb (C25.out.gone tb (.inr (.inr rfl)))).trans X25.out.2⟩
  have x2 : w27.cell? ⟨X, 2, none⟩ = some (.slice (some ⟨tb, tq, none⟩) 2 pt) := by
    have h := X27.out.1.trans X21.out
    simp [World.cell?, h]
  have x3 : w27.cell? ⟨tb, tq + 3, none⟩ = some (.string ⟨#[122]⟩) := (World.cell?_of_block (w := w21) X27.out.2).trans D21.out
  have F27 := Lib.hid (F25.out.on BB.out)
  have C27 := Lib.hid (C25.out.on BB.out)
  obtain ⟨Rc, G27, -⟩ := C27.out.rest
  have G27 := Lib.hid G27
  obtain ⟨Ra, H27, -⟩ := A27.out.rest
  have H27 := Lib.hid H27
  have FE := Lib.hid C27.out.fe
  clear AL E26 HW6 F25 X25 C25 hl21 O21 O23 X21 D21 X27 A27
  go_wp2_with fail
  (with_reducible refine (fLive F27.out Fw.kU.1).mono ?_); rintro e w28 ⟨rfl, B28⟩
  have G28 := Lib.hid (G27.out.on B28.out)
  clear x2 x3
  go_wp2_with fail
  (with_reducible refine (fLive G28.out Fw.kU.2.1).mono ?_); rintro e w29 ⟨rfl, B29⟩
  have G29 := Lib.hid (G28.out.on B29.out)
  have F29 := Lib.hid ((F27.out.on B28.out).on B29.out)
  have E29 := Lib.hid ((FE.out.on B28.out).on B29.out)
  go_wp2_with fail
  (with_reducible refine (fSame F29.out G29.out E29.out Fw.kU.2.2).mono ?_); rintro e w30 ⟨rfl, B30⟩
  have H30 := Lib.hid (((H27.out.on B28.out).on B29.out).on B30.out)
  have F30 := Lib.hid (F29.out.on B30.out)
  go_wp2_with fail
  (with_reducible refine (fLenR H30.out (n := 1) rfl).mono ?_); rintro e w31 ⟨rfl, B31⟩
  have F31 := Lib.hid (F30.out.on B31.out)
  go_wp2_with fail
  (with_reducible refine (fClockR F31.out (n := 5) rfl).mono ?_); rintro e w32 ⟨rfl, B32⟩
  go_wp2
  go_ret
  have BC := C27.out.below
  have B5 := (((B28.out.trans (B29.out.mono B28.out.size)).trans (B30.out.mono (Nat.le_trans B28.out.size B29.out.size))).trans (B31.out.mono (Nat.le_trans B28.out.size (Nat.le_trans B29.out.size B30.out.size)))).trans (B32.out.mono (Nat.le_trans B28.out.size (Nat.le_trans B29.out.size (Nat.le_trans B30.out.size B31.out.size))))
  exact ⟨rfl, Lib.hid (b1.out.trans ((BC.trans (B5.mono BC.size)).mono b1.out.size))⟩
end Go.Proofs.YtkbekojnmdgdgaaGreatDoor
