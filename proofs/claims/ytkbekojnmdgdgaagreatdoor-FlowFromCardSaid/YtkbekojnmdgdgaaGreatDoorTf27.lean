/-
  Part 27 of the texts behind the law: TFlIsRun.
-/
import Derived.Test.YtkbekojnmdgdgaaGreatDoorTf26
import Derived.Test.YtkbekojnmdgdgaaGreatDoorTf23
import Derived.Test.YtkbekojnmdgdgaaGreatDoorTf22
import Derived.Test.YtkbekojnmdgdgaaGreatDoorTf9
/- FlIsRun -/
namespace Go.Proofs.YtkbekojnmdgdgaaGreatDoor
open Go.RowKit Go.Maps
set_option maxRecDepth 20000
def irB (d : Df.D) (r : Rn.R) : Bool := decide (r.d = d) && (decide (r.ts.length = d.length) && ((List.range d.length).all (fun i => tkB (d.getD i tz).retry (r.ts.getD i Rn.t0)) && (decide (0 ≤ r.st) && (decide (r.st ≤ 3) && areB d r.sg))))
theorem irB_iff {d : Df.D} {r : Rn.R} : irB d r = true ↔ r.d = d ∧ Fw.RunV r := by
 unfold irB
 simp only [Bool.and_eq_true, decide_eq_true_eq, List.all_eq_true, List.mem_range, areB_iff]
 constructor
 ·rintro ⟨rfl, h1, h2, h3, h4, h5, h6⟩
  exact ⟨rfl, h3, h4, h1, fun i hi => by have := h2 i hi; rw [getD_at hi] at this; exact tkB_iff.1 this, h5, h6⟩
 ·rintro ⟨rfl, h⟩
  exact ⟨rfl, h.len, fun i hi => by rw [getD_at hi]; exact tkB_iff.2 (h.task i hi), h.st0, h.st3, h.nodup, h.sigs⟩
set_option maxHeartbeats 4000000 in
theorem isRunOf_any (B : Option Addr) (d : Df.D) (cb : Nat) (hk : Df.Ok d) (p : At3) (r : Rn.R) (h9 : r.sg.length ≤ 1000) (w : World) (O : Nat → Prop) (hd : DefIn w w.heap.size B d) (h : RunO w O p r) :
  Calls Tryz.prog 68 #[.agg #[.slice B d.length cb], rv p r] w (BoolG w (irB d r)) := by
 obtain ⟨n, hn⟩ : ∃ n, n = d.length := ⟨_, rfl⟩
 obtain ⟨m, hm⟩ : ∃ m, m = r.ts.length := ⟨_, rfl⟩
 obtain ⟨q, hq⟩ : ∃ q, q = r.sg.length := ⟨_, rfl⟩
 obtain ⟨rn, hrn⟩ : ∃ z, z = r.d.length := ⟨_, rfl⟩
 have V : Hid (irB d r = (decide (r.d = d) && (decide (m = n) && ((List.range n).all (fun i => tkB (d.getD i tz).retry (r.ts.getD i Rn.t0)) && (decide (0 ≤ r.st) && (decide (r.st ≤ 3) && areB d r.sg)))))) := Lib.hid (by rw [hn, hm]; rfl)
 generalize irB d r = v at *
 have HN := Lib.hid hn
 have HM := Lib.hid hm
 have HQ := Lib.hid hq
 have hn9 : n ≤ 16 := by rw [hn]; exact hk.n16
 obtain ⟨w1, hw1⟩ : ∃ w1, w1 = (w.alloc (.cells #[.slice B n cb] 37)).alloc (.cells #[.slice p.A rn p.ca, .int .i64 r.st, .slice p.T m p.ct, .slice p.S q p.cs] 41) := ⟨_, rfl⟩
 have B1 : Hid (Below w.heap.size w w1) := Lib.hid (by rw [hw1]; exact ((Below.refl _ _).alloc (Nat.le_refl _) _).alloc (by simp) _)
 have X1 : Hid (w1.heap[w.heap.size]? = some (.cells #[.slice B n cb] 37 (0, 0))) := Lib.hid (by rw [hw1]; exact box0' _ _ _)
 have Y1 : Hid (w1.heap[w.heap.size + 1]? = some (.cells #[.slice p.A rn p.ca, .int .i64 r.st, .slice p.T m p.ct, .slice p.S q p.cs] 41 (0, 0))) := Lib.hid (by rw [hw1]; exact box1 _ _ _)
 have CS : Hid (Calls Tryz.prog 26 #[.agg #[.slice p.A rn p.ca, .int .i64 0, .slice none 0 0, .slice none 0 0], .agg #[.slice B n cb, .int .i64 0, .slice none 0 0, .slice none 0 0]] w1 (BoolG w1 (decide (r.d = d)))) := Lib.hid (by
  have hs := same_w ⟨p.A, p.ca, none, 0, none, 0⟩ ⟨r.d, 0, [], []⟩ w1 (fun _ => True) ⟨(h.on B1.out).d.imp fun _ _ _ => trivial, ⟨(fun k hk => by cases hk), RowO.nil_⟩, RowO.nil_⟩ ⟨B, cb, none, 0, none, 0⟩ ⟨d, 0, [], []⟩ (fun _ => True) ⟨(hd.on B1.out).defO, ⟨(fun k hk => by cases hk), RowO.nil_⟩, RowO.nil_⟩ ⟨Nat.zero_le _, Nat.zero_le _, .inr hk.fair, (fun k hk => by cases hk), (fun k hk => by cases hk)⟩
  have e : Rn.sameV ⟨r.d, 0, [], []⟩ ⟨d, 0, [], []⟩ = decide (r.d = d) := by
   unfold Rn.sameV
   congr 1
   exact propext ⟨fun h => congrArg Rn.R.d h, fun h => by rw [h]⟩
  rw [e] at hs
  rw [hrn, hn]
  exact hs)
 have NU : Hid (∀ t ∈ d, 0 ≤ t.retry ∧ t.retry ≤ 8) := Lib.hid fun t ht => by
  have := hk.nums t ht
  unfold Df.numOk at this
  rw [decide_eq_true_eq] at this
  exact ⟨this.1, this.2.1⟩
 have DD := Lib.hid hd
 have TT := Lib.hid (fun W (hW : Below w.heap.size w W) => (h.on hW).t)
 have CA : Hid (∀ W, Below w.heap.size w W → Calls Tryz.prog 89 #[.slice p.S q p.cs, .agg #[.slice B n cb]] W (BoolG W (areB d r.sg))) := Lib.hid fun W hW => areSignals_any p.S r.sg p.cs q hq (by rw [hq]; exact h9) B d n cb hn hk.fair W O (h.on hW).s (hd.on hW)
 have S1 : Hid (∀ W, Below w1.heap.size w1 W → W.cell? ⟨w.heap.size, 0, none⟩ = some (.slice B n cb) ∧ W.cell? ⟨w.heap.size + 1, 0, none⟩ = some (.slice p.A rn p.ca) ∧ W.cell? ⟨w.heap.size + 1, 1, none⟩ = some (.int .i64 r.st) ∧ W.cell? ⟨w.heap.size + 1, 2, none⟩ = some (.slice p.T m p.ct) ∧ W.cell? ⟨w.heap.size + 1, 3, none⟩ = some (.slice p.S q p.cs)) := Lib.hid fun W hW => by
  have x0 : w1.cell? ⟨w.heap.size, 0, none⟩ = some (.slice B n cb) := by simp [World.cell?, X1.out]
  obtain ⟨⟨y0, y1, y2, y3⟩, -⟩ := obj4 Y1.out
  exact ⟨(hW.cell (block_lt x0)).trans x0, (hW.cell (block_lt y0)).trans y0, (hW.cell (block_lt y1)).trans y1, (hW.cell (block_lt y2)).trans y2, (hW.cell (block_lt y3)).trans y3⟩
 unfold rv
 rw [← hn, ← hm, ← hq, ← hrn]
 generalize decide (r.d = d) = b1 at *
 generalize hst : r.st = st at *
 generalize areB d r.sg = b5 at *
 obtain ⟨x0, y0, y1, y2, y3⟩ := S1.out w1 (Below.refl _ _)
 clear hd h hk h9 hn hm hq hrn X1 Y1 hst
 go_enter Tryz.func68, Tryz.ntmps68
 go_upto_region 1 with (fail)
 rw [← hw1]
 clear hw1
 go_wp2_with fail
 refine CS.out.mono ?_; rintro e w2 ⟨rfl, b2⟩
 have B2 : Hid (Below w1.heap.size w1 w2) := b2
 have BW2 : Hid (Below w.heap.size w w2) := Lib.hid (B1.out.trans (b2.out.mono B1.out.size))
 clear CS b2 x0 y0 y1 y2 y3
 obtain ⟨x0, y0, y1, y2, y3⟩ := S1.out w2 B2.out
 cases b1 with
 | false =>
  have R : Hid (v = false) := Lib.hid V.out
  clear V
  go_wp2
  go_ret
  exact ⟨ret_bool R.out.symm, BW2⟩
 | true =>
  by_cases hmn : m = n
  ·have V2 : Hid (v = ((List.range n).all (fun i => tkB (d.getD i tz).retry (r.ts.getD i Rn.t0)) && (decide (0 ≤ st) && (decide (st ≤ 3) && b5)))) := Lib.hid (by rw [V.out, decide_eq_true hmn]; rfl)
   clear V
   subst hmn
   go_wp2_with fail
   clear x0 y0 y1 y2 y3
   go_loopw [26] (fun iv wr => ∃ k : Nat, k ≤ m ∧ iv = .int .i64 k ∧ Hid (∀ i, i < k → tkB (d.getD i tz).retry (r.ts.getD i Rn.t0) = true) ∧ Hid (Below w1.heap.size w1 wr)) (fun iv _ => m - (intOf iv).toNat)
   case atStart => exact ⟨0, Nat.zero_le _, rfl, Lib.hid (fun i hi => by omega), B2⟩
   case round =>
    obtain ⟨k, hk, rfl, HA, HB⟩ := hrel
    have BW : Hid (Below w.heap.size w wr) := Lib.hid (B1.out.trans (HB.out.mono B1.out.size))
    by_cases hlt : k < m
    ·have hlt' : (k : Int) < (m : Int) := by omega
     have K1 : Hid (k < r.ts.length) := Lib.hid (by rw [← HM.out]; exact hlt)
     have K2 : Hid (k < d.length) := Lib.hid (by rw [← HN.out]; exact hlt)
     obtain ⟨bt, ot, kk, hT, -, hkk, -, t0, t1, t2, t3⟩ := (TT.out wr BW.out).at_ K1.out
     obtain ⟨bd, od, A2, ca2, hB, -, -, -, -, p0, p1, p2, p3, p4, p5⟩ := (DD.out.on BW.out).at2 K2.out
     have KK : Hid (r.ts.getD k Rn.t0 = kk) := Lib.hid (by rw [List.getD_eq_getElem?_getD, hkk.out]; rfl)
     have DK : Hid ((d.getD k tz).retry = (d[k]'K2.out).retry) := Lib.hid (by rw [getD_at K2.out])
     obtain ⟨r0, r1⟩ := NU.out _ (List.getElem_mem K2.out)
     obtain ⟨rt, hrt⟩ : ∃ rt, rt = (d[k]'K2.out).retry := ⟨_, rfl⟩
     rw [← hrt] at p2 r0 r1 DK
     obtain ⟨ph, tr, un, da⟩ := kk
     dsimp only at t0 t1 t2 t3
     obtain ⟨w3, hw3⟩ : ∃ w3, w3 = wr.alloc (.cells #[.int .i64 ph, .int .i64 tr, .int .i64 un, .string (str da)] 47) := ⟨_, rfl⟩
     have B3 : Hid (Below wr.heap.size wr w3) := Lib.hid (by rw [hw3]; exact (Below.refl _ _).alloc (Nat.le_refl _) _)
     have X3 : w3.heap[wr.heap.size]? = some (.cells #[.int .i64 ph, .int .i64 tr, .int .i64 un, .string (str da)] 47 (0, 0)) := by rw [hw3]; exact heap_alloc_new _ _
     obtain ⟨⟨z0, z1, z2, z3⟩, -⟩ := obj4 X3
     have x0 := (S1.out w3 (HB.out.trans (B3.out.mono HB.out.size))).1
     have p6 := (B3.out.cell (block_lt p2)).trans p2
     have SD : Hid (∀ W, Below w3.heap.size w3 W → (W.cell? ⟨wr.heap.size, 0, none⟩ = some (.int .i64 ph) ∧ W.cell? ⟨wr.heap.size, 1, none⟩ = some (.int .i64 tr) ∧ W.cell? ⟨wr.heap.size, 2, none⟩ = some (.int .i64 un) ∧ W.cell? ⟨wr.heap.size, 3, none⟩ = some (.string (str da))) ∧ W.cell? ⟨w.heap.size, 0, none⟩ = some (.slice B m cb) ∧ W.cell? ⟨bd, od + k * 6 + 2, none⟩ = some (.int .i64 rt)) := Lib.hid fun W hW => by
      have hc : ∀ {bb o : Nat} {u : Value}, w3.cell? ⟨bb, o, none⟩ = some u → W.cell? ⟨bb, o, none⟩ = some u := fun h => (hW.cell (block_lt h)).trans h
      exact ⟨⟨hc z0, hc z1, hc z2, hc z3⟩, hc x0, hc p6⟩
     have CT := Lib.hid (isTask_any ph tr un da rt r0 (by omega) w3.drew)
     have BF : Hid (Below w1.heap.size w1 w3.drew) := Lib.hid (HB.out.trans (B3.out.drew.mono HB.out.size))
     have WF : Hid (Below w3.heap.size w3 w3.drew) := Lib.hid (Below.refl _ _).drew
     rw [hT]
     clear hkk X3 x0 p6 z0 z1 z2 z3 hrt
     go_upto_region 6 with (fail)
     rw [← hw3]
     clear hw3 t0 t1 t2 t3 p0 p1 p2 p3 p4 p5
     subst hB
     refine wp_region_held_drew (S := (fun w' => (w'.cell? ⟨wr.heap.size, 0, none⟩ = some (.int .i64 ph) ∧ w'.cell? ⟨wr.heap.size, 1, none⟩ = some (.int .i64 tr) ∧ w'.cell? ⟨wr.heap.size, 2, none⟩ = some (.int .i64 un) ∧ w'.cell? ⟨wr.heap.size, 3, none⟩ = some (.string (str da))) ∧ w'.cell? ⟨w.heap.size, 0, none⟩ = some (.slice (some ⟨bd, od, none⟩) m cb) ∧ w'.cell? ⟨bd, od + k * 6 + 2, none⟩ = some (.int .i64 rt))) (by kernel_rfl) ?hS1001 (fun hHeld => ?_)
     case hS1001 => exact (SD.out _ WF.out)
     refine takH 0 (h := ?_)
     try simp only [Act.put, List.setIfInBounds_toArray, List.set_cons_zero, List.set_cons_succ]
     refine takH 1 (h := ?_)
     try simp only [Act.put, List.setIfInBounds_toArray, List.set_cons_zero, List.set_cons_succ]
     refine takH 2 (h := ?_)
     try simp only [Act.put, List.setIfInBounds_toArray, List.set_cons_zero, List.set_cons_succ]
     refine takH 3 (h := ?_)
     try simp only [Act.put, List.setIfInBounds_toArray, List.set_cons_zero, List.set_cons_succ]
     refine takH 4 (h := ?_)
     try simp only [Act.put, List.setIfInBounds_toArray, List.set_cons_zero, List.set_cons_succ]
     refine takH 5 (h := ?_)
     try simp only [Act.put, List.setIfInBounds_toArray, List.set_cons_zero, List.set_cons_succ]
     refine takH 6 (h := ?_)
     try simp only [Act.put, List.setIfInBounds_toArray, List.set_cons_zero, List.set_cons_succ]
     refine wpAnyH_ready (rs := [7]) (by kernel_rfl) (by simp) ?_
     refine AllReadyH.cons (o := ?o1002) ?hi1002 (fun K hK => ?_) AllReadyH.nil
     case hi1002 => (simp only [List.getElem?_toArray, List.getElem?_cons_zero, List.getElem?_cons_succ]; exact rfl)
     (go_simp; go_at_call 88; (with_reducible refine CT.out.mono ?_); rintro e w4 ⟨rfl, b4⟩; have B4 : Hid (Below w3.heap.size w3 w4) := Lib.hid (WF.out.trans (b4.out.mono WF.out.size)); have F4 : Hid (Below w1.heap.size w1 w4) := Lib.hid (BF.out.trans (b4.out.mono BF.out.size)); try dsimp only)
     refine hK.out _ _ ?_ (fun hHeld => ?_)
     ·exact SD.out _ B4.out
     clear hK K
     try simp only [Act.put, List.setIfInBounds_toArray, List.set_cons_zero, List.set_cons_succ]
     refine wpAnyH_ready (rs := [8]) (by kernel_rfl) (by simp) ?_
     refine AllReadyH.cons (o := ?o1003) ?hi1003 (fun K hK => ?_) AllReadyH.nil
     case hi1003 => (simp only [List.getElem?_toArray, List.getElem?_cons_zero, List.getElem?_cons_succ]; exact rfl)
     go_simp
     refine hK.out _ _ ?_ (fun hHeld => ?_)
     ·exact SD.out _ B4.out
     clear hK K
     try simp only [Act.put, List.setIfInBounds_toArray, List.set_cons_zero, List.set_cons_succ]
     refine wpAnyH_done (by kernel_rfl) ?_ _
     have TB : Hid (tkB (d.getD k tz).retry (r.ts.getD k Rn.t0) = tkB rt ⟨ph, tr, un, da⟩) := Lib.hid (by rw [DK.out, KK.out])
     cases htb : tkB rt ⟨ph, tr, un, da⟩ with
     | true =>
      have NX : Hid (∀ i, i < k + 1 → tkB (d.getD i tz).retry (r.ts.getD i Rn.t0) = true) := Lib.hid fun i hi => by
       by_cases e : i = k
       ·subst e; rw [TB.out, htb]
       ·exact HA.out i (by omega)
      clear htb
      go_wp2
      go_roundw
      case rel => exact ⟨k + 1, by omega, by go_num, NX, F4⟩
      case measure => simp [intOf]; omega
     | false =>
      have R : Hid (v = false) := Lib.hid (by
       rw [V2.out]
       have : ((List.range m).all fun i => tkB (d.getD i tz).retry (r.ts.getD i Rn.t0)) = false := by
        rw [List.all_eq_false]
        exact ⟨k, List.mem_range.2 hlt, by rw [TB.out, htb]; decide⟩
       rw [this]; rfl)
      clear htb
      go_wp2
      go_ret
      exact ⟨ret_bool R.out.symm, Lib.hid (B1.out.trans (F4.out.mono B1.out.size))⟩
    ·obtain rfl : k = m := by omega
     have hge : ¬ (k : Int) < (k : Int) := by omega
     have V3 : Hid (v = (decide (0 ≤ st) && (decide (st ≤ 3) && b5))) := Lib.hid (by
      rw [V2.out, List.all_eq_true.2 fun i hi => HA.out i (List.mem_range.1 hi)]; rfl)
     obtain ⟨x0, y0, y1, y2, y3⟩ := S1.out wr HB.out
     clear V2 HA
     by_cases s0 : 0 ≤ st
     ·by_cases s1 : st ≤ 3
      ·have R : Hid (v = b5) := Lib.hid (by rw [V3.out, decide_eq_true s0, decide_eq_true s1]; rfl)
       have CB := Lib.hid (CA.out wr BW.out)
       go_wp2_with fail
       refine CB.out.mono ?_; rintro e w5 ⟨rfl, b5'⟩
       clear x0 y0 y1 y2 y3 CB
       go_wp2
       go_ret
       exact ⟨ret_bool R.out.symm, Lib.hid (BW.out.trans (b5'.out.mono BW.out.size))⟩
      ·have R : Hid (v = false) := Lib.hid (by rw [V3.out, decide_eq_false s1]; simp)
       go_wp2
       go_ret
       exact ⟨ret_bool R.out.symm, BW⟩
     ·have R : Hid (v = false) := Lib.hid (by rw [V3.out, decide_eq_false s0]; rfl)
      go_wp2
      go_ret
      exact ⟨ret_bool R.out.symm, BW⟩
  ·have hmn' : ((m : Int) != (n : Int)) = true := by simp; omega
   have R : Hid (v = false) := Lib.hid (by rw [V.out, decide_eq_false hmn]; rfl)
   clear V
   go_wp2
   go_ret
   exact ⟨ret_bool R.out.symm, BW2⟩
end Go.Proofs.YtkbekojnmdgdgaaGreatDoor
