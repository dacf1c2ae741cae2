/-
  Part 33 of the texts behind the law: UFlTakeR, UFlTakeK, UFlValid, UFlFromC, UFlState, UFlTwo, UFlStates.
-/
import Derived.Test.YtkbekojnmdgdgaaGreatDoorUs32
import Derived.Test.YtkbekojnmdgdgaaGreatDoorUs26
import Derived.Test.YtkbekojnmdgdgaaGreatDoorUs27
import Derived.Test.YtkbekojnmdgdgaaGreatDoorUs11
import Derived.Deep.RegionHeld3
/- FlTakeR -/
namespace Go.Proofs.YtkbekojnmdgdgaaGreatDoor
open Go.RowKit Go.Maps
set_option maxRecDepth 20000
def rnI (s : Fw.S) (rs : List Rn.R) (os : List ByteArray) (i : Nat) : Bool := match Fw.lookD s (os.getD i ByteArray.empty) with
 | none => false
 | some d => irB d (rs.getD i Rn.r0)
def rnB (s : Fw.S) (rs : List Rn.R) (os : List ByteArray) : Bool := decide (rs.length ≤ 64) && (decide (rs.length = os.length) && (List.range rs.length).all (rnI s rs os))
theorem runV_bd {r : Rn.R} (h : Fw.RunV r) (hd : Df.Ok r.d) : Bd r := by
 have hf := hd.fair
 refine ⟨hf.1, fun t ht => (hf.2 t ht).1, by rw [h.len]; exact hf.1, ?_, fun x hx => ?_⟩
 ·refine Nat.le_trans (nodup_len r.sg (r.d.map (·.on)) h.nodup fun x hx => ?_) (by rw [List.length_map]; exact hf.1)
  obtain ⟨_, t, ht, e⟩ := h.sigs x hx
  exact List.mem_map.2 ⟨t, ht, e⟩
 ·obtain ⟨_, t, ht, e⟩ := h.sigs x hx
  rw [← e]
  exact (hf.2 t ht).2.2
theorem txC_wide (l : List ByteArray) : Wide 1 (l.map txC) := fun v hv => by
 obtain ⟨x, _, rfl⟩ := List.mem_map.1 hv
 exact ⟨rfl, fun u hu => by simp [txC] at hu; rcases hu with rfl; rfl⟩
theorem NmsO.srcT {w : World} {O : Nat → Prop} {A : Option Addr} {l : List ByteArray} (h : NmsO w O A l) : Src w A (l.map txC) :=
 src_of (k := 1) (by decide) (txC_wide l) fun hn => by
  rw [List.length_map] at hn
  obtain ⟨b, off, e, _, hb, hc⟩ := h.2 hn
  refine ⟨b, off, e, hb, fun i hi => ?_⟩
  rw [List.length_map] at hi
  have c0 := hc i hi
  simp only [getD_at hi] at c0
  rw [getD_map hi]
  intro j hj
  obtain rfl : j = 0 := by omega
  exact c0
theorem FPM.setRuns {w w1 w2 : World} {g : Nat} {a : FAt} {s : Fw.S} (h : FPM w g a s) (b1 : Below w.heap.size w w1) {Y n cf : Nat} {F : Option Addr} {rs : List Rn.R} {os : List ByteArray} {f : Nat → At3} (hn : n = rs.length) (hl : rs.length = os.length) (h64 : n ≤ 64)
  (o1 : OwnK w1 w.heap.size 41 4 (some ⟨Y, 0, none⟩) n (rwV rs f)) (i1 : ∀ i, i < rs.length → RunO w1 (fun b => w.heap.size ≤ b ∧ b ≠ Y) (f i) (rs.getD i Rn.r0)) (b2 : Below w1.heap.size w1 w2) (o2 : OwnK w2 w1.heap.size 9 1 F cf (os.map txC)) :
  ∃ a', FPM ((w2.setCell ⟨g, 2, none⟩ (.slice (some ⟨Y, 0, none⟩) n n)).setCell ⟨g, 3, none⟩ (.slice F n cf)) g a' { s with runs := rs.zip os } ∧ StepM g a a' w ((w2.setCell ⟨g, 2, none⟩ (.slice (some ⟨Y, 0, none⟩) n n)).setCell ⟨g, 3, none⟩ (.slice F n cf)) := by
 obtain ⟨w3, hw3⟩ : ∃ w3, w3 = (w2.setCell ⟨g, 2, none⟩ (.slice (some ⟨Y, 0, none⟩) n n)).setCell ⟨g, 3, none⟩ (.slice F n cf) := ⟨_, rfl⟩
 rw [← hw3]
 have ap := h.apart
 have hlt := h.lt
 have hg := hlt g (.inl (.inl rfl))
 have s1 := b1.size
 have s2 := b2.size
 have s3 : w3.heap.size = w2.heap.size := by rw [hw3]; simp [World.setCell]
 have k3 : ∀ i, i ≠ g → w3.heap[i]? = w2.heap[i]? := fun i hi => by rw [hw3]; exact (Below.heap_setCell _ _ _ _ hi).trans (Below.heap_setCell _ _ _ _ hi)
 have kw : ∀ i, i ≠ g → i < w.heap.size → w3.heap[i]? = w.heap[i]? := fun i hi hl => (k3 i hi).trans ((b2.block i (by omega)).trans (b1.block i hl))
 have k1 : ∀ i, i ≠ g → i < w1.heap.size → w3.heap[i]? = w1.heap[i]? := fun i hi hl => (k3 i hi).trans (b2.block i hl)
 have hY : w.heap.size ≤ Y ∧ Y < w1.heap.size := o1.lt
 have hF : ∀ i, isB F i → w1.heap.size ≤ i ∧ i < w2.heap.size := fun i ⟨x, hx, hi⟩ => by subst hx hi; exact o2.lt
 have hz : (rs.zip os).length = n := by rw [List.length_zip]; omega
 have h1 : (rs.zip os).map (·.1) = rs := List.map_fst_zip (by omega)
 have h2 : (rs.zip os).map ofV = os.map txC := by
  have e : (rs.zip os).map ofV = ((rs.zip os).map (·.2)).map txC := by rw [List.map_map]; rfl
  rw [e, List.map_snd_zip (by omega)]
 refine ⟨{ a with R := some ⟨Y, 0, none⟩, cr := n, F := F, cf := cf, f := f, Q := fun b => (w.heap.size ≤ b ∧ b ≠ Y) ∧ b < w1.heap.size }, ⟨?_, h.defs.keepB fun i hi => kw i (by rintro rfl; exact ap.d hi) (hlt i (.inl (.inr (.inl hi)))), ?_, ?_, h.keys.keep (by omega) fun i hi => kw i (by rintro rfl; exact ap.k hi) (hlt i (.inl (.inr (.inr (.inr (.inr hi)))))), ?_, fun b hb => ⟨?_, fun hm => ?_⟩, h.sz, h.dm, by rw [hz]; exact h64⟩, ?_, fun k hk => ?_, fun k hk => ?_⟩
 ·have e0 : w2.heap[g]? = _ := ((b2.block g (by omega)).trans (b1.block g hg)).trans h.obj
  have e1 := heap_setCell_same w2 g 2 _ _ (.slice (some ⟨Y, 0, none⟩) n n) e0
  have e2 := heap_setCell_same _ g 3 _ _ (.slice F n cf) e1
  rw [hw3, e2]
  simp [flC, hz]
 ·have := (o1.keepB (w' := w3) fun i hi => by obtain ⟨x, hx, rfl⟩ := hi; cases hx; exact k1 Y (by omega) hY.2).low (Nat.zero_le _)
  show OwnK w3 0 _ 4 _ _ (rsV (rs.zip os) f)
  rw [rsV_rw, h1]
  exact this
 ·show OwnK w3 0 _ 1 _ _ ((rs.zip os).map ofV)
  rw [h2]
  exact (o2.keepB (w' := w3) fun i hi => k3 i (by have := hF i hi; omega)).low (Nat.zero_le _)
 ·exact rwO (Y := Y) (fun i hi => ((i1 i hi).here.keep (by omega) fun b hb hl => k1 b (by have := hb.1.1; omega) hl)) h1.symm
 ·have hb' : (w.heap.size ≤ b ∧ b ≠ Y) ∧ b < w1.heap.size := hb
  omega
 ·have hb' : (w.heap.size ≤ b ∧ b ≠ Y) ∧ b < w1.heap.size := hb
  rcases hm with rfl | hm | ⟨x, hx, hm⟩ | hm | hm
  ·omega
  ·have := hlt _ (.inl (.inr (.inl hm))); omega
  ·cases hx; exact hb'.1.2 hm
  ·have := hF _ hm; omega
  ·have := hlt _ (.inl (.inr (.inr (.inr (.inr hm))))); omega
 ·refine ⟨?_, ?_, ?_, by omega, fun i hi hn2 => kw i (fun e => hn2 (.inl e)) hi⟩
  ·rw [hw3]; exact b2.os.trans b1.os
  ·rw [hw3]; exact b2.tape.trans b1.tape
  ·rw [hw3]; exact b2.output.trans b1.output
 ·rcases hk with rfl | hk | ⟨x, hx, hk⟩ | hk | hk
  ·exact .inl (.inl rfl)
  ·exact .inl (.inr (.inl hk))
  ·cases hx; have hk' : k = Y := hk; exact .inr (by omega)
  ·have := hF _ hk; exact .inr (by omega)
  ·exact .inl (.inr (.inr (.inr (.inr hk))))
 ·have hk' : (w.heap.size ≤ k ∧ k ≠ Y) ∧ k < w1.heap.size := hk
  exact .inr hk'.1.1
set_option maxHeartbeats 4000000 in
theorem takeRuns_any {w0 w : World} {g : Nat} {s0 : Fw.S} (h : MadeF w0 g s0 w) (hT : ∀ p ∈ s0.defs, Df.Ok p.2 ∧ Df.parse (Df.showT p.2) = (p.2, 0)) (hF : FactsD w0) (R F : Option Addr) (rs : List Rn.R) (os : List ByteArray) (cr cf : Nat) (O : Nat → Prop) (hr : RunsO w0 O R rs) (ho : NmsO w0 O F os) (hsg : ∀ r ∈ rs, r.sg.length ≤ 1000) :
  Calls Tryz.prog 47 #[.pointer (some ⟨g, 0, none⟩), .slice R rs.length cr, .slice F os.length cf] w (TkG w0 g (rnB s0 rs os) { s0 with runs := rs.zip os }) := by
 obtain ⟨n, hn1⟩ : ∃ n, n = rs.length := ⟨_, rfl⟩
 obtain ⟨m, hm1⟩ : ∃ m, m = os.length := ⟨_, rfl⟩
 have HN := Lib.hid hn1
 have HM := Lib.hid hm1
 have V : Hid (rnB s0 rs os = (decide (n ≤ 64) && (decide (n = m) && (List.range n).all (rnI s0 rs os)))) := Lib.hid (by rw [hn1, hm1]; rfl)
 generalize rnB s0 rs os = v at *
 have H := Lib.hid h
 have RS := Lib.hid hr
 have OS := Lib.hid ho
 have HF := Lib.hid hF
 have HT := Lib.hid hT
 have SG := Lib.hid hsg
 rw [← hn1, ← hm1]
 clear h hr ho hF hT hsg hn1 hm1
 by_cases h16 : ¬ (n ≤ 64)
 ·have R' : Hid (v = false) := Lib.hid (by rw [V.out, decide_eq_false h16]; rfl)
  have hi : (64 : Int) < (n : Int) := by omega
  clear V h16
  go_enter Tryz.func47, Tryz.ntmps47
  go_wp2
  go_ret
  exact TkG.no H.out rfl R'.out
 have n16 : n ≤ 64 := Decidable.not_not.1 h16
 have hi : ¬ (64 : Int) < (n : Int) := by omega
 by_cases hnm : ¬ (n = m)
 ·have R' : Hid (v = false) := Lib.hid (by rw [V.out, decide_eq_false hnm]; simp)
  have hnm' : ((n : Int) != (m : Int)) = true := by simp; omega
  clear V h16
  go_enter Tryz.func47, Tryz.ntmps47
  go_wp2
  go_ret
  exact TkG.no H.out rfl R'.out
 have hnm2 : n = m := Decidable.not_not.1 hnm
 have V2 : Hid (v = (List.range n).all (rnI s0 rs os)) := Lib.hid (by rw [V.out, decide_eq_true n16, decide_eq_true hnm2]; rfl)
 have LE : Hid (rs.length = os.length) := Lib.hid (by rw [← HN.out, ← HM.out]; exact hnm2)
 clear V h16 hnm
 subst hnm2
 go_enter Tryz.func47, Tryz.ntmps47
 go_wp2_with fail
 go_loopw [23] (fun iv wr => ∃ k : Nat, k ≤ n ∧ iv = .int .i64 k ∧ Hid (∀ i, i < k → rnI s0 rs os i = true) ∧ Hid (MadeF w0 g s0 wr)) (fun iv _ => n - (intOf iv).toNat)
 case atStart => exact ⟨0, Nat.zero_le _, rfl, Lib.hid (fun i hi => by omega), H⟩
 case round =>
  obtain ⟨k, hk, rfl, HA, HI⟩ := hrel
  obtain ⟨a, p, mm, bw⟩ := HI.out
  have P := Lib.hid p
  have MM := Lib.hid mm
  have BW := Lib.hid bw
  clear p mm bw
  by_cases hlt : k < n
  ·have hlt' : (k : Int) < (n : Int) := by omega
   have K1 : Hid (k < rs.length) := Lib.hid (by rw [← HN.out]; exact hlt)
   have K2 : Hid (k < os.length) := Lib.hid (by rw [← HM.out]; exact hlt)
   obtain ⟨bf, of_, hF, f0, -⟩ := OS.out.at_ K2.out
   have f1 := (BW.out.cell (block_lt f0)).trans f0
   obtain ⟨b, off, hR, -, hb, hc⟩ := (RowO.keep RS.out BW.out.size fun b _ hl => BW.out.block b hl : RowO wr O R rs.length 4 _) (by have := K1.out; omega)
   obtain ⟨pr, c0, c1, c2, c3, -, -⟩ := hc k K1.out
   have hro : RunO w0 O pr (rs.getD k Rn.r0) ∨ True := .inr trivial
   clear hro
   obtain ⟨b', off', hR', -, hb', hc'⟩ := RS.out (by have := K1.out; omega)
   obtain ⟨pr', c0', c1', c2', c3', hro, -⟩ := hc' k K1.out
   have hbb : b' = b ∧ off' = off := by
    rw [hR] at hR'
    injection hR' with hR'
    injection hR' with e1 e2
    exact ⟨e1.symm, e2.symm⟩
   obtain ⟨rfl, rfl⟩ := hbb
   have RR := Lib.hid (fun W (hW : Below w0.heap.size w0 W) => hro.on hW)
   have d0 : wr.cell? ⟨b', off' + k * 4, none⟩ = some (.slice pr'.A (rs.getD k Rn.r0).d.length pr'.ca) := (BW.out.cell (p := ⟨b', off' + k * 4, none⟩) hb').trans c0'
   have d1 : wr.cell? ⟨b', off' + k * 4 + 1, none⟩ = some (.int .i64 (rs.getD k Rn.r0).st) := (BW.out.cell (p := ⟨b', off' + k * 4 + 1, none⟩) hb').trans c1'
   have d2 : wr.cell? ⟨b', off' + k * 4 + 2, none⟩ = some (.slice pr'.T (rs.getD k Rn.r0).ts.length pr'.ct) := (BW.out.cell (p := ⟨b', off' + k * 4 + 2, none⟩) hb').trans c2'
   have d3 : wr.cell? ⟨b', off' + k * 4 + 3, none⟩ = some (.slice pr'.S (rs.getD k Rn.r0).sg.length pr'.cs) := (BW.out.cell (p := ⟨b', off' + k * 4 + 3, none⟩) hb').trans c3'
   have SGK : Hid ((rs.getD k Rn.r0).sg.length ≤ 1000) := Lib.hid (SG.out _ (by rw [getD_at K1.out]; exact List.getElem_mem _))
   have RI : Hid (rnI s0 rs os k = match Fw.lookD s0 (os.getD k ByteArray.empty) with | none => false | some d => irB d (rs.getD k Rn.r0)) := Lib.hid rfl
   have FB : Hid (rnI s0 rs os k = false → v = false) := Lib.hid fun e => by
    rw [V2.out, List.all_eq_false]
    exact ⟨k, List.mem_range.2 hlt, by rw [e]; decide⟩
   have NXA : Hid (rnI s0 rs os k = true → ∀ i, i < k + 1 → rnI s0 rs os i = true) := Lib.hid fun e i hi => by
    by_cases h : i = k
    ·subst h; exact e
    ·exact HA.out i (by omega)
   have LK : Hid (∀ d, Fw.lookD s0 (os.getD k ByteArray.empty) = some d → Df.Ok d) := Lib.hid fun d hd => (HT.out _ (Fw.look_mem hd)).1
   generalize rnI s0 rs os k = ri at *
   obtain ⟨r, hr⟩ : ∃ r, r = rs.getD k Rn.r0 := ⟨_, rfl⟩
   have HRR := Lib.hid hr
   rw [← hr] at d0 d1 d2 d3 SGK RI RR
   clear hr c0 c1 c2 c3 c0' c1' c2' c3' hro hc hc' hb hb' f0 hR'
   subst hF hR
   generalize os.getD k ByteArray.empty = na at *
   have CD := Lib.hid (fun W (hW : Below wr.heap.size wr W) => def_any (P.out.on hW) (fun p hp => (HT.out p hp).2) ((HF.out.on BW.out).on hW) na)
   unfold DefG at CD
   generalize Fw.lookD s0 na = o at *
   obtain ⟨an, han⟩ : ∃ z, z = r.d.length := ⟨_, rfl⟩
   obtain ⟨st, hst⟩ : ∃ z, z = r.st := ⟨_, rfl⟩
   obtain ⟨tn, htn⟩ : ∃ z, z = r.ts.length := ⟨_, rfl⟩
   obtain ⟨sn, hsn⟩ : ∃ z, z = r.sg.length := ⟨_, rfl⟩
   rw [← han] at d0
   rw [← hst] at d1
   rw [← htn] at d2
   rw [← hsn] at d3
   have RL : Hid (rv pr' r = .agg #[.slice pr'.A an pr'.ca, .int .i64 st, .slice pr'.T tn pr'.ct, .slice pr'.S sn pr'.cs]) := Lib.hid (by unfold rv; rw [han, hst, htn, hsn])
   clear han hst htn hsn
   obtain ⟨w2, hw2⟩ : ∃ w2, w2 = wr.alloc (.cells #[.slice pr'.A an pr'.ca, .int .i64 st, .slice pr'.T tn pr'.ct, .slice pr'.S sn pr'.cs] 41) := ⟨_, rfl⟩
   have B2 : Hid (Below wr.heap.size wr w2) := Lib.hid (by rw [hw2]; exact (Below.refl _ _).alloc (Nat.le_refl _) _)
   have X2 : Hid (w2.heap[wr.heap.size]? = some (.cells #[.slice pr'.A an pr'.ca, .int .i64 st, .slice pr'.T tn pr'.ct, .slice pr'.S sn pr'.cs] 41 (0, 0))) := Lib.hid (by rw [hw2]; exact heap_alloc_new _ _)
   have f2 := (B2.out.cell (block_lt f1)).trans f1
   have CE := Lib.hid (CD.out w2 B2.out)
   go_upto_region 6 with (fail)
   rw [← hw2]
   clear hw2 d0 d1 d2 d3 f1 CD
   go_wp2_with fail
   refine CE.out.mono ?_; rintro e w3 ⟨A3, c3, rfl, d3, b3⟩
   have B3 : Hid (Below wr.heap.size wr w3) := Lib.hid (B2.out.trans (b3.out.mono B2.out.size))
   have X3 : Hid (w3.heap[wr.heap.size]? = _) := Lib.hid ((b3.out.block _ (lt_of_block X2.out)).trans X2.out)
   clear CE f2 b3 X2
   cases o with
   | none =>
    have R' : Hid (v = false) := Lib.hid (FB.out RI.out)
    have IX := Lib.hid (HI.out.on (B3.out.alloc B3.out.size (.cells #[.slice A3 0 c3] 37)))
    dsimp only [Option.getD_none, List.length_nil, Option.isSome_none]
    go_wp2
    go_ret
    exact TkG.no IX.out rfl R'.out
   | some d =>
    dsimp only [Option.getD_some, Option.isSome_some] at d3 RI ⊢
    obtain ⟨dn, hdn⟩ : ∃ z, z = d.length := ⟨_, rfl⟩
    have HDN := Lib.hid hdn
    rw [← hdn]
    clear hdn
    obtain ⟨w4, hw4⟩ : ∃ w4, w4 = w3.alloc (.cells #[.slice A3 dn c3] 37) := ⟨_, rfl⟩
    have B34 : Hid (Below w3.heap.size w3 w4) := Lib.hid (by rw [hw4]; exact (Below.refl _ _).alloc (Nat.le_refl _) _)
    have B4 : Hid (Below wr.heap.size wr w4) := Lib.hid (B3.out.trans (B34.out.mono B3.out.size))
    have y4 : w4.cell? ⟨w3.heap.size, 0, none⟩ = some (.slice A3 dn c3) := by rw [hw4]; simp
    obtain ⟨⟨z0, z1, z2, z3⟩, -⟩ := obj4 ((B34.out.block _ (lt_of_block X3.out)).trans X3.out)
    have CI := Lib.hid (isRunOf_any A3 d c3 (LK.out d rfl) pr' r SGK.out w4 O (d3.out.on B34.out) (RR.out w4 (BW.out.trans (B4.out.mono BW.out.size))))
    rw [RL.out, ← HDN.out] at CI
    rw [← RI.out] at CI
    go_upto_region 7 with (fail)
    rw [← hw4]
    clear hw4
    go_wp2_with fail
    refine CI.out.mono ?_; rintro e w5 ⟨rfl, b5⟩
    have I5 := Lib.hid (HI.out.on (B4.out.trans (b5.out.mono B4.out.size)))
    clear CI y4 z0 z1 z2 z3
    cases hri : ri with
    | false =>
     have R' : Hid (v = false) := Lib.hid (FB.out hri)
     clear hri
     go_wp2
     go_ret
     exact TkG.no I5.out rfl R'.out
    | true =>
     have NX := Lib.hid (NXA.out hri)
     clear hri
     go_wp2
     go_roundw
     case rel => exact ⟨k + 1, by omega, by go_num, NX, I5⟩
     case measure => simp [intOf]; omega
  ·obtain rfl : k = n := by omega
   have hge : ¬ (k : Int) < (k : Int) := by omega
   have R' : Hid (v = true) := Lib.hid (by rw [V2.out]; exact List.all_eq_true.2 fun i hi => HA.out i (List.mem_range.1 hi))
   have BD : Hid (∀ r ∈ rs, Bd r) := Lib.hid fun r hr => by
    obtain ⟨i, hi2, rfl⟩ := List.getElem_of_mem hr
    have := HA.out i (by rw [HN.out]; exact hi2)
    unfold rnI at this
    rw [getD_at hi2] at this
    cases hl : Fw.lookD s0 (os.getD i ByteArray.empty) with
    | none => rw [hl] at this; cases this
    | some d =>
     rw [hl] at this
     obtain ⟨e, hv⟩ := irB_iff.1 this
     exact runV_bd hv (by rw [e]; exact (HT.out _ (Fw.look_mem hl)).1)
   have CR : Hid (Calls Tryz.prog 37 #[.slice R k cr] wr (CopsG wr rs k)) := Lib.hid (copiesOf_any R cr rs BD.out (by have := HN.out; omega) k HN.out wr O (RS.out.keep BW.out.size fun b _ hl => BW.out.block b hl))
   have CO : Hid (∀ W, Below wr.heap.size wr W → Calls Tryz.prog 38 #[.slice F k cf] W (RowK W 9 1 k (os.map txC))) := Lib.hid fun W hW =>
    cloneS F _ (txC_wide os) (by rw [List.length_map]; have := HM.out; omega) k (by rw [List.length_map]; exact HM.out) cf W (OS.out.keep (BW.out.trans (hW.mono BW.out.size)).size fun b _ hl => (BW.out.trans (hW.mono BW.out.size)).block b hl).srcT
   obtain ⟨⟨-, -, c2, c3, -⟩, -⟩ := P.out.cells
   have GL : Hid (g < wr.heap.size) := Lib.hid (lt_of_block P.out.obj)
   clear c2 c3
   go_wp2_with fail
   refine CR.out.mono ?_; rintro e w2 ⟨Y, f, rfl, o2, i2, b2⟩
   clear CR
   go_wp2_with fail
   refine (CO.out w2 b2.out).mono ?_; rintro e w3 ⟨F3, cf3, rfl, o3, b3⟩
   have G3 : Hid (w3.heap[g]? = wr.heap[g]?) := Lib.hid ((b3.out.block _ (Nat.lt_of_lt_of_le GL.out b2.out.size)).trans (b2.out.block _ GL.out))
   have e4 := G3.out.trans P.out.obj
   have e5 := heap_setCell_same _ g 2 _ _ (.slice (some ⟨Y, 0, none⟩) k k) e4
   have c2 := (obF e4).1.2.2.1
   have f2 := (obF e4).2.2.2.1
   have c3 := (obF e5).1.2.2.2.1
   have f3 := (obF e5).2.2.2.2.1
   have FIN := Lib.hid (P.out.setRuns b2.out HN.out LE.out n16 o2.out i2.out b3.out o3.out)
   clear e4 e5 CO
   go_wp2
   go_ret
   obtain ⟨a', p', q'⟩ := FIN.out
   exact TkG.yes (MadeF.step P.out MM.out BW.out p' q') rfl rfl R'.out
end Go.Proofs.YtkbekojnmdgdgaaGreatDoor
/- FlTakeK -/
namespace Go.Proofs.YtkbekojnmdgdgaaGreatDoor
open Go.RowKit Go.Maps
set_option maxRecDepth 20000
def kyI (os : List ByteArray) (l : List Ky.T) (i : Nat) : Bool :=
 let t := l.getD i ⟨ByteArray.empty, ByteArray.empty, 0⟩
 decide (1 ≤ t.key.size ∧ t.key.size ≤ 16) && (hrB os t.name t.id && (l.take i).all fun a => !Ky.same a t.name t.key)
def kyB (os : List ByteArray) (l : List Ky.T) : Bool := decide (l.length ≤ 128) && (List.range l.length).all (kyI os l)
theorem Ky.putB_none {l : List Ky.T} {n k : ByteArray} : Ky.putB ⟨128, l⟩ n k = true ↔ ∀ a ∈ l, Ky.same a n k = false := by
 unfold Ky.putB
 rw [Option.isNone_iff_eq_none, Ky.find_none]
theorem all_same {l : List Ky.T} {n k : ByteArray} : (l.all fun a => !Ky.same a n k) = true ↔ ∀ a ∈ l, Ky.same a n k = false := by
 rw [List.all_eq_true]
 exact ⟨fun h a ha => by have := h a ha; simpa using this, fun h a ha => by rw [h a ha]; rfl⟩
set_option maxHeartbeats 4000000 in
theorem takeKeys_any {w0 w : World} {g : Nat} {s0 : Fw.S} (h : MadeF w0 g s0 w) (h0 : s0.keys = []) (A : Option Addr) (l : List Ky.T) (c : Nat) (O : Nat → Prop) (hl : Ents w0 O A l) (hok : ∀ t ∈ l, Ky.ok t.name t.key t.id) :
  Calls Tryz.prog 48 #[.pointer (some ⟨g, 0, none⟩), .slice A l.length c] w (TkG w0 g (kyB (s0.runs.map (·.2)) l) { s0 with keys := l }) := by
 obtain ⟨n, hn1⟩ : ∃ n, n = l.length := ⟨_, rfl⟩
 have HN := Lib.hid hn1
 obtain ⟨os, hos⟩ : ∃ os, os = s0.runs.map (·.2) := ⟨_, rfl⟩
 have HO := Lib.hid hos
 have V : Hid (kyB (s0.runs.map (·.2)) l = (decide (n ≤ 128) && (List.range n).all (kyI os l))) := Lib.hid (by rw [hn1, hos]; rfl)
 generalize kyB (s0.runs.map (·.2)) l = v at *
 have H := Lib.hid h
 have LS := Lib.hid hl
 have OK := Lib.hid hok
 have I0 : Hid (MadeF w0 g { s0 with keys := l.take 0 } w ∧ Ky.Inv ⟨128, l.take 0⟩) := Lib.hid (by
  rw [List.take_zero]
  exact ⟨by rw [← h0]; exact h, ⟨by show (1 : Int) ≤ 128; decide, by show (128 : Int) ≤ 128; decide, by show ((0 : Nat) : Int) ≤ 128; decide, List.Pairwise.nil⟩⟩)
 rw [← hn1]
 clear h hl hok hn1 hos
 by_cases h16 : ¬ (n ≤ 128)
 ·have R : Hid (v = false) := Lib.hid (by rw [V.out, decide_eq_false h16]; rfl)
  have hi : (128 : Int) < (n : Int) := by omega
  clear V h16
  go_enter Tryz.func48, Tryz.ntmps48
  go_wp2
  go_ret
  exact TkG.no H.out rfl R.out
 have n16 : n ≤ 128 := Decidable.not_not.1 h16
 have hi : ¬ (128 : Int) < (n : Int) := by omega
 have V2 : Hid (v = (List.range n).all (kyI os l)) := Lib.hid (by rw [V.out, decide_eq_true n16]; rfl)
 clear V h16
 go_enter Tryz.func48, Tryz.ntmps48
 go_wp2_with fail
 go_loopw [14] (fun iv wr => ∃ k : Nat, k ≤ n ∧ iv = .int .i64 k ∧ Hid (∀ i, i < k → kyI os l i = true) ∧ Hid (MadeF w0 g { s0 with keys := l.take k } wr ∧ Ky.Inv ⟨128, l.take k⟩)) (fun iv _ => n - (intOf iv).toNat)
 case atStart => exact ⟨0, Nat.zero_le _, rfl, Lib.hid (fun i hi => by omega), I0⟩
 case round =>
  obtain ⟨k, hk, rfl, HA, HI⟩ := hrel
  by_cases hlt : k < n
  ·have hlt' : (k : Int) < (n : Int) := by omega
   have K1 : Hid (k < l.length) := Lib.hid (by rw [← HN.out]; exact hlt)
   have KV := Lib.hid HI.out.2
   have HM := Lib.hid HI.out.1
   obtain ⟨a, p, mm, bw⟩ := HI.out.1
   have P := Lib.hid p
   have MM := Lib.hid mm
   have BW := Lib.hid bw
   obtain ⟨b, off, t, hA, -, ht, y0, y1, y2⟩ := (LS.out.keep bw.size fun b _ hl => bw.block b hl).at_ K1.out
   have HT : Hid (l[k]'K1.out = t) := Lib.hid (by
    obtain ⟨h1, h2⟩ := List.getElem?_eq_some_iff.1 ht.out
    exact h2)
   have KI : Hid (kyI os l k = (decide (1 ≤ t.key.size ∧ t.key.size ≤ 16) && (hrB os t.name t.id && (l.take k).all fun a => !Ky.same a t.name t.key))) := Lib.hid (by
    unfold kyI
    rw [getD_at K1.out, HT.out])
   have TO : Hid (Ky.ok t.name t.key t.id) := Lib.hid (OK.out t (by rw [← HT.out]; exact List.getElem_mem (l := l) K1.out))
   have FB : Hid (kyI os l k = false → v = false) := Lib.hid fun e => by
    rw [V2.out, List.all_eq_false]
    exact ⟨k, List.mem_range.2 hlt, by rw [e]; decide⟩
   have NXA : Hid (kyI os l k = true → ∀ i, i < k + 1 → kyI os l i = true) := Lib.hid fun e i hi => by
    by_cases h : i = k
    ·subst h; exact e
    ·exact HA.out i (by omega)
   have TS : Hid (l.take (k + 1) = l.take k ++ [t]) := Lib.hid (by rw [List.take_succ_eq_append_getElem K1.out, HT.out])
   have TL : Hid ((l.take k).length = k) := Lib.hid (by rw [List.length_take]; have := K1.out; omega)
   have HR := Lib.hid (fun W (hW : Below wr.heap.size wr W) => hasRun_any (P.out.on hW) t.name t.id ⟨TO.out.2.1, TO.out.2.2⟩)
   have ho : (({ s0 with keys := l.take k } : Fw.S).runs.map (·.2)) = os := HO.out.symm
   rw [ho] at HR
   generalize kyI os l k = ki at *
   clear p mm bw ht ho HI
   subst hA
   obtain ⟨w2, hw2⟩ : ∃ w2, w2 = wr.alloc (.cells #[.string t.name, .string t.key, .int .i64 t.id] 65) := ⟨_, rfl⟩
   have B2 : Hid (Below wr.heap.size wr w2) := Lib.hid (by rw [hw2]; exact (Below.refl _ _).alloc (Nat.le_refl _) _)
   have X2 : Hid (w2.heap[wr.heap.size]? = some (.cells #[.string t.name, .string t.key, .int .i64 t.id] 65 (0, 0))) := Lib.hid (by rw [hw2]; exact heap_alloc_new _ _)
   have H2 := Lib.hid (HM.out.on B2.out)
   obtain ⟨⟨z0, z1, z2⟩, -⟩ := obT X2.out
   have CH := Lib.hid (HR.out w2 B2.out)
   go_upto_region 6 with (fail)
   rw [← hw2]
   clear hw2 y0 y1 y2 HR
   by_cases hke : t.key = { data := #[] }
   ·have R : Hid (v = false) := Lib.hid (FB.out (by rw [KI.out, decide_eq_false (by rw [hke]; decide)]; rfl))
    rw [hke] at z1
    clear hke CH
    go_wp2
    go_ret
    exact TkG.no H2.out rfl R.out
   have NE : t.key.toList.isEmpty = false := bs_nonempty hke
   have K1S : Hid (1 ≤ t.key.size) := Lib.hid (by
    rcases Nat.eq_zero_or_pos t.key.size with h | h
    ·exact absurd (by
      generalize t.key = x at h
      cases x with | mk y => simp [ByteArray.size] at h; rw [h]) hke
    ·exact h)
   by_cases hkl : ¬ (t.key.size ≤ 16)
   ·have R : Hid (v = false) := Lib.hid (FB.out (by rw [KI.out, decide_eq_false (fun h => hkl h.2)]; rfl))
    have hkl2 : (16 : Int) < (t.key.size : Int) := by omega
    clear hke hkl CH
    go_wp2
    go_ret
    exact TkG.no H2.out rfl R.out
   have hkl1 : t.key.size ≤ 16 := Decidable.not_not.1 hkl
   have hkl2 : ¬ (16 : Int) < (t.key.size : Int) := by omega
   have KI2 : Hid (ki = (hrB os t.name t.id && (l.take k).all fun a => !Ky.same a t.name t.key)) := Lib.hid (by rw [KI.out, decide_eq_true ⟨K1S.out, hkl1⟩]; rfl)
   clear hke hkl KI K1S hkl1
   go_wp2_with fail
   refine CH.out.mono ?_; rintro e w3 ⟨rfl, b3⟩
   have B3 : Hid (Below wr.heap.size wr w3) := Lib.hid (B2.out.trans (b3.out.mono B2.out.size))
   have H3 := Lib.hid (HM.out.on B3.out)
   clear CH z0 z1 z2
   cases hh : hrB os t.name t.id with
   | false =>
    have R : Hid (v = false) := Lib.hid (FB.out (by rw [KI2.out, hh]; rfl))
    clear hh
    go_wp2
    go_ret
    exact TkG.no H3.out rfl R.out
   | true =>
    have KI3 : Hid (ki = (l.take k).all fun a => !Ky.same a t.name t.key) := Lib.hid (by rw [KI2.out, hh]; rfl)
    clear hh KI2
    have P3 := Lib.hid (P.out.on B3.out)
    have X3 : Hid (w3.heap[wr.heap.size]? = some (.cells #[.string t.name, .string t.key, .int .i64 t.id] 65 (0, 0))) := Lib.hid ((b3.out.block _ (lt_of_block X2.out)).trans X2.out)
    have CP := Lib.hid (keysPut_any a.k a.K ⟨128, l.take k⟩ t.name t.key t.id w3.drew P3.out.drew.keys KV.out TO.out)
    have SP : Hid (∀ O2 W, Step a.K O2 w3.drew W → W.cell? ⟨g, 4, none⟩ = some (.pointer (some ⟨a.k, 0, none⟩)) ∧ W.cell? ⟨wr.heap.size, 0, none⟩ = some (.string t.name) ∧ W.cell? ⟨wr.heap.size, 1, none⟩ = some (.string t.key) ∧ W.cell? ⟨wr.heap.size, 2, none⟩ = some (.int .i64 t.id)) := Lib.hid fun O2 W st => by
     have h1 := st.only.block g (lt_of_block P3.out.obj) P3.out.apart.k
     have h2 := st.only.block wr.heap.size (lt_of_block X3.out) fun hk => by have := P.out.lt _ (.inl (.inr (.inr (.inr (.inr hk))))); omega
     obtain ⟨⟨x0, x1, x2⟩, -⟩ := obT X3.out
     exact ⟨(World.cell?_of_block (w := w3) h1).trans P3.out.cells.1.2.2.2.2, (World.cell?_of_block (w := w3) h2).trans x0, (World.cell?_of_block (w := w3) h2).trans x1, (World.cell?_of_block (w := w3) h2).trans x2⟩
    have S0 : Hid (w3.drew.cell? ⟨g, 4, none⟩ = some (.pointer (some ⟨a.k, 0, none⟩)) ∧ w3.drew.cell? ⟨wr.heap.size, 0, none⟩ = some (.string t.name) ∧ w3.drew.cell? ⟨wr.heap.size, 1, none⟩ = some (.string t.key) ∧ w3.drew.cell? ⟨wr.heap.size, 2, none⟩ = some (.int .i64 t.id)) := Lib.hid (SP.out a.K _ (Step.refl _ _))
    go_upto_region 8 with (fail)
    refine wp_region_held_drew (S := (fun w' => w'.cell? ⟨g, 4, none⟩ = some (.pointer (some ⟨a.k, 0, none⟩)) ∧ w'.cell? ⟨wr.heap.size, 0, none⟩ = some (.string t.name) ∧ w'.cell? ⟨wr.heap.size, 1, none⟩ = some (.string t.key) ∧ w'.cell? ⟨wr.heap.size, 2, none⟩ = some (.int .i64 t.id))) (by kernel_rfl) ?hS1001 (fun hHeld => ?_)
    case hS1001 => exact S0.out
    refine wpAnyH_take (i := 0) (oi := ?o1002) (v := ?v1002) ?hi1002 (by kernel_rfl) (by kernel_rfl) (by kernel_rfl) ?hQ1002 (Or.inl ⟨?hg1002, ?hy1002⟩) (by assumption) ?rest1002
    case hi1002 => (simp only [List.getElem?_toArray, List.getElem?_cons_zero]; exact rfl)
    case hQ1002 => exact fun _ _ _ h => h
    case hg1002 => rfl
    case hy1002 => (intro w' hSw; (try dsimp only at hSw); go_simp; try with_reducible rfl)
    try simp only [Act.put, List.setIfInBounds_toArray, List.set_cons_zero, List.set_cons_succ]
    refine wpAnyH_take (i := 1) (oi := ?o1003) (v := ?v1003) ?hi1003 (by kernel_rfl) (by kernel_rfl) (by kernel_rfl) ?hQ1003 (Or.inl ⟨?hg1003, ?hy1003⟩) (by assumption) ?rest1003
    case hi1003 => (simp only [List.getElem?_toArray, List.getElem?_cons_zero, List.getElem?_cons_succ]; exact rfl)
    case hQ1003 => exact fun _ _ _ h => h
    case hg1003 => rfl
    case hy1003 => (intro w' hSw; (try dsimp only at hSw); go_simp; try with_reducible rfl)
    try simp only [Act.put, List.setIfInBounds_toArray, List.set_cons_zero, List.set_cons_succ]
    refine wpAnyH_take (i := 2) (oi := ?o1004) (v := ?v1004) ?hi1004 (by kernel_rfl) (by kernel_rfl) (by kernel_rfl) ?hQ1004 (Or.inl ⟨?hg1004, ?hy1004⟩) (by assumption) ?rest1004
    case hi1004 => (simp only [List.getElem?_toArray, List.getElem?_cons_zero, List.getElem?_cons_succ]; exact rfl)
    case hQ1004 => exact fun _ _ _ h => h
    case hg1004 => rfl
    case hy1004 => (intro w' hSw; (try dsimp only at hSw); go_simp; try with_reducible rfl)
    try simp only [Act.put, List.setIfInBounds_toArray, List.set_cons_zero, List.set_cons_succ]
    refine wpAnyH_take (i := 3) (oi := ?o1005) (v := ?v1005) ?hi1005 (by kernel_rfl) (by kernel_rfl) (by kernel_rfl) ?hQ1005 (Or.inl ⟨?hg1005, ?hy1005⟩) (by assumption) ?rest1005
    case hi1005 => (simp only [List.getElem?_toArray, List.getElem?_cons_zero, List.getElem?_cons_succ]; exact rfl)
    case hQ1005 => exact fun _ _ _ h => h
    case hg1005 => rfl
    case hy1005 => (intro w' hSw; (try dsimp only at hSw); go_simp; try with_reducible rfl)
    try simp only [Act.put, List.setIfInBounds_toArray, List.set_cons_zero, List.set_cons_succ]
    refine wpAnyH_take (i := 4) (oi := ?o1006) (v := ?v1006) ?hi1006 (by kernel_rfl) (by kernel_rfl) (by kernel_rfl) ?hQ1006 (Or.inl ⟨?hg1006, ?hy1006⟩) (by assumption) ?rest1006
    case hi1006 => (simp only [List.getElem?_toArray, List.getElem?_cons_zero, List.getElem?_cons_succ]; exact rfl)
    case hQ1006 => exact fun _ _ _ h => h
    case hg1006 => rfl
    case hy1006 => (intro w' hSw; (try dsimp only at hSw); go_simp; try with_reducible rfl)
    try simp only [Act.put, List.setIfInBounds_toArray, List.set_cons_zero, List.set_cons_succ]
    refine wpAnyH_take (i := 5) (oi := ?o1007) (v := ?v1007) ?hi1007 (by kernel_rfl) (by kernel_rfl) (by kernel_rfl) ?hQ1007 (Or.inl ⟨?hg1007, ?hy1007⟩) (by assumption) ?rest1007
    case hi1007 => (simp only [List.getElem?_toArray, List.getElem?_cons_zero, List.getElem?_cons_succ]; exact rfl)
    case hQ1007 => exact fun _ _ _ h => h
    case hg1007 => rfl
    case hy1007 => (intro w' hSw; (try dsimp only at hSw); go_simp; try with_reducible rfl)
    try simp only [Act.put, List.setIfInBounds_toArray, List.set_cons_zero, List.set_cons_succ]
    refine wpAnyH_take (i := 6) (oi := ?o1008) (v := ?v1008) ?hi1008 (by kernel_rfl) (by kernel_rfl) (by kernel_rfl) ?hQ1008 (Or.inl ⟨?hg1008, ?hy1008⟩) (by assumption) ?rest1008
    case hi1008 => (simp only [List.getElem?_toArray, List.getElem?_cons_zero, List.getElem?_cons_succ]; exact rfl)
    case hQ1008 => exact fun _ _ _ h => h
    case hg1008 => rfl
    case hy1008 => (intro w' hSw; (try dsimp only at hSw); go_simp; try with_reducible rfl)
    try simp only [Act.put, List.setIfInBounds_toArray, List.set_cons_zero, List.set_cons_succ]
    refine wpAnyH_take (i := 7) (oi := ?o1009) (v := ?v1009) ?hi1009 (by kernel_rfl) (by kernel_rfl) (by kernel_rfl) ?hQ1009 (Or.inl ⟨?hg1009, ?hy1009⟩) (by assumption) ?rest1009
    case hi1009 => (simp only [List.getElem?_toArray, List.getElem?_cons_zero, List.getElem?_cons_succ]; exact rfl)
    case hQ1009 => exact fun _ _ _ h => h
    case hg1009 => rfl
    case hy1009 => (intro w' hSw; (try dsimp only at hSw); go_simp; try with_reducible rfl)
    try simp only [Act.put, List.setIfInBounds_toArray, List.set_cons_zero, List.set_cons_succ]
    refine wpAnyH_ready (rs := [8]) (by kernel_rfl) (by simp) ?_
    refine AllReadyH.cons (o := ?o1010) ?hi1010 (fun K hK => ?_) AllReadyH.nil
    case hi1010 => (simp only [List.getElem?_toArray, List.getElem?_cons_zero, List.getElem?_cons_succ]; exact rfl)
    (go_simp; go_at_call 40; (with_reducible refine CP.out.mono ?_); rintro e w4 ⟨rfl, O2, k4, st⟩; have K4 := Lib.hid k4; have ST := Lib.hid st; clear k4 st; try dsimp only)
    refine hK.out _ _ ?_ (fun hHeld => ?_)
    ·exact SP.out _ _ ST.out
    clear hK K
    try simp only [Act.put, List.setIfInBounds_toArray, List.set_cons_zero, List.set_cons_succ]
    refine wpAnyH_take (i := 9) (oi := ?o1011) (v := ?v1011) ?hi1011 (by kernel_rfl) (by kernel_rfl) (by kernel_rfl) ?hQ1011 (Or.inl ⟨?hg1011, ?hy1011⟩) (by assumption) ?rest1011
    case hi1011 => (simp only [List.getElem?_toArray, List.getElem?_cons_zero, List.getElem?_cons_succ]; exact rfl)
    case hQ1011 => exact fun _ _ _ h => h
    case hg1011 => rfl
    case hy1011 => (intro w' hSw; (try dsimp only at hSw); go_simp; try with_reducible rfl)
    try simp only [Act.put, List.setIfInBounds_toArray, List.set_cons_zero, List.set_cons_succ]
    refine wpAnyH_take (i := 10) (oi := ?o1012) (v := ?v1012) ?hi1012 (by kernel_rfl) (by kernel_rfl) (by kernel_rfl) ?hQ1012 (Or.inl ⟨?hg1012, ?hy1012⟩) (by assumption) ?rest1012
    case hi1012 => (simp only [List.getElem?_toArray, List.getElem?_cons_zero, List.getElem?_cons_succ]; exact rfl)
    case hQ1012 => exact fun _ _ _ h => h
    case hg1012 => rfl
    case hy1012 => (intro w' hSw; (try dsimp only at hSw); go_simp; try with_reducible rfl)
    try simp only [Act.put, List.setIfInBounds_toArray, List.set_cons_zero, List.set_cons_succ]
    refine wpAnyH_take (i := 11) (oi := ?o1013) (v := ?v1013) ?hi1013 (by kernel_rfl) (by kernel_rfl) (by kernel_rfl) ?hQ1013 (Or.inl ⟨?hg1013, ?hy1013⟩) (by assumption) ?rest1013
    case hi1013 => (simp only [List.getElem?_toArray, List.getElem?_cons_zero, List.getElem?_cons_succ]; exact rfl)
    case hQ1013 => exact fun _ _ _ h => h
    case hg1013 => rfl
    case hy1013 => (intro w' hSw; (try dsimp only at hSw); go_simp; try with_reducible rfl)
    try simp only [Act.put, List.setIfInBounds_toArray, List.set_cons_zero, List.set_cons_succ]
    refine wpAnyH_take (i := 12) (oi := ?o1014) (v := ?v1014) ?hi1014 (by kernel_rfl) (by kernel_rfl) (by kernel_rfl) ?hQ1014 (Or.inl ⟨?hg1014, ?hy1014⟩) (by assumption) ?rest1014
    case hi1014 => (simp only [List.getElem?_toArray, List.getElem?_cons_zero, List.getElem?_cons_succ]; exact rfl)
    case hQ1014 => exact fun _ _ _ h => h
    case hg1014 => rfl
    case hy1014 => (intro w' hSw; (try dsimp only at hSw); go_simp; try with_reducible rfl)
    try simp only [Act.put, List.setIfInBounds_toArray, List.set_cons_zero, List.set_cons_succ]
    refine wpAnyH_take (i := 13) (oi := ?o1015) (v := ?v1015) ?hi1015 (by kernel_rfl) (by kernel_rfl) (by kernel_rfl) ?hQ1015 (Or.inl ⟨?hg1015, ?hy1015⟩) (by assumption) ?rest1015
    case hi1015 => (simp only [List.getElem?_toArray, List.getElem?_cons_zero, List.getElem?_cons_succ]; exact rfl)
    case hQ1015 => exact fun _ _ _ h => h
    case hg1015 => rfl
    case hy1015 => (intro w' hSw; (try dsimp only at hSw); go_simp; try with_reducible rfl)
    try simp only [Act.put, List.setIfInBounds_toArray, List.set_cons_zero, List.set_cons_succ]
    refine wpAnyH_done (by kernel_rfl) ?_ _
    have M4 : Hid (MadeF w0 g { s0 with keys := (Ky.putS ⟨128, l.take k⟩ t.name t.key t.id).l } w4) := Lib.hid (by
     obtain ⟨p5, q5⟩ := P3.out.drew.putKey K4.out ST.out
     exact MadeF.step P.out MM.out BW.out p5 (StepM.ahead B3.out.drew q5))
    have PB := @Ky.putB_none (l.take k) t.name t.key
    cases hpb : Ky.putB ⟨128, l.take k⟩ t.name t.key with
    | false =>
     have R : Hid (v = false) := Lib.hid (FB.out (by
      rw [KI3.out]
      cases hc : (l.take k).all fun a => !Ky.same a t.name t.key with
      | false => rfl
      | true => rw [PB.2 (all_same.1 hc)] at hpb; cases hpb))
     clear hpb PB
     go_wp2
     go_ret
     exact TkG.no M4.out rfl R.out
    | true =>
     have AS : Hid (∀ a ∈ l.take k, Ky.same a t.name t.key = false) := Lib.hid (PB.1 hpb)
     have NX := Lib.hid (NXA.out (by rw [KI3.out]; exact all_same.2 AS.out))
     have PS : Hid (Ky.putS ⟨128, l.take k⟩ t.name t.key t.id = ⟨128, l.take (k + 1)⟩) := Lib.hid (by rw [Ky.putS_new AS.out (by rw [TL.out]; omega), TS.out])
     have IN : Hid (MadeF w0 g { s0 with keys := l.take (k + 1) } w4 ∧ Ky.Inv ⟨128, l.take (k + 1)⟩) := Lib.hid (by
      have h1 := M4.out
      have h2 := KV.out.put t.name t.key t.id
      rw [PS.out] at h1 h2
      exact ⟨h1, h2⟩)
     clear hpb PB
     go_wp2
     go_roundw
     case rel => exact ⟨k + 1, by omega, by go_num, NX, IN⟩
     case measure => simp [intOf]; omega
  ·obtain rfl : k = n := by omega
   have hge : ¬ (k : Int) < (k : Int) := by omega
   have R : Hid (v = true) := Lib.hid (by rw [V2.out]; exact List.all_eq_true.2 fun i hi => HA.out i (List.mem_range.1 hi))
   go_wp2
   go_ret
   exact TkG.yes HI.out.1 (by rw [HN.out, List.take_length]) rfl R.out
end Go.Proofs.YtkbekojnmdgdgaaGreatDoor
/- FlValid -/
namespace Go.Proofs.YtkbekojnmdgdgaaGreatDoor
open Go.RowKit
def mS (t : Fw.St) : Fw.S := { Fw.new with clock := t.clock, defs := dfsZ t.names t.texts }
def frB (t : Fw.St) : Bool := decide (0 ≤ t.clock ∧ t.clock ≤ 1099511627776) && (dfB t.names t.texts && (rnB (mS t) t.runs t.of && kyB ((t.runs.zip t.of).map (·.2)) t.keys))
theorem dfB_iff {ns xs : List ByteArray} : dfB ns xs = true ↔ ns.length ≤ 16 ∧ ns.length = xs.length ∧ ns.Nodup ∧ (∀ n ∈ ns, Nm.isName (Fw.tx n) = true) ∧ ∀ x ∈ xs, (Df.parse (Fw.tx x)).2 = 0 ∧ Fw.bs (Df.showT (Df.parse (Fw.tx x)).1) = x := by
 unfold dfB
 simp only [Bool.and_eq_true, decide_eq_true_eq, List.all_eq_true, List.mem_range]
 refine and_congr_right fun h1 => and_congr_right fun h2 => ?_
 have E : ∀ i (hi : i < ns.length) (hx : i < xs.length), dfI ns xs i = true ↔ Nm.isName (Fw.tx ns[i]) = true ∧ ns[i] ∉ ns.take i ∧ (Df.parse (Fw.tx xs[i])).2 = 0 ∧ Fw.bs (Df.showT (Df.parse (Fw.tx xs[i])).1) = xs[i] := fun i hi hx => by
  unfold dfI
  rw [getD_at hi, getD_at hx, Bool.and_eq_true, Bool.and_eq_true, ninB_iff]
  unfold shB
  rw [decide_eq_true_eq]
  exact Iff.rfl
 constructor
 ·intro h
  refine ⟨?_, fun n hn => ?_, fun x hx => ?_⟩
  ·rw [List.nodup_iff_pairwise_ne, List.pairwise_iff_getElem]
   intro i j hi hj hij e
   refine ((E j hj (by omega)).1 (h j hj)).2.1 ?_
   rw [← e]
   exact List.mem_iff_getElem.2 ⟨i, by rw [List.length_take]; omega, by rw [List.getElem_take]⟩
  ·obtain ⟨i, hi, rfl⟩ := List.getElem_of_mem hn
   exact ((E i hi (by omega)).1 (h i hi)).1
  ·obtain ⟨i, hi, rfl⟩ := List.getElem_of_mem hx
   exact ((E i (by omega) hi).1 (h i (by omega))).2.2
 ·rintro ⟨a, b, c⟩ i hi
  refine (E i hi (by omega)).2 ⟨b _ (List.getElem_mem hi), fun hm => ?_, c _ (List.getElem_mem (by omega))⟩
  obtain ⟨j, hj, e⟩ := List.getElem_of_mem hm
  rw [List.length_take] at hj
  rw [List.getElem_take] at e
  rw [List.nodup_iff_pairwise_ne, List.pairwise_iff_getElem] at a
  exact a j i (by omega) hi (by omega) e
theorem rnB_iff {s : Fw.S} {rs : List Rn.R} {os : List ByteArray} : rnB s rs os = true ↔ rs.length ≤ 64 ∧ rs.length = os.length ∧ ∀ p ∈ rs.zip os, Fw.RunV p.1 ∧ Fw.lookD s p.2 = some p.1.d := by
 unfold rnB
 simp only [Bool.and_eq_true, decide_eq_true_eq, List.all_eq_true, List.mem_range]
 refine and_congr_right fun h1 => and_congr_right fun h2 => ?_
 have E : ∀ i (hi : i < rs.length) (hx : i < os.length), rnI s rs os i = true ↔ Fw.RunV rs[i] ∧ Fw.lookD s os[i] = some rs[i].d := fun i hi hx => by
  unfold rnI
  rw [getD_at hi, getD_at hx]
  cases Fw.lookD s os[i] with
  | none => exact ⟨fun h => (by cases h), fun h => (by cases h.2)⟩
  | some d =>
   rw [irB_iff]
   exact ⟨fun ⟨a, b⟩ => ⟨b, by rw [a]⟩, fun ⟨a, b⟩ => ⟨(Option.some.inj b).symm, a⟩⟩
 constructor
 ·intro h p hp
  obtain ⟨i, hi, rfl⟩ := List.getElem_of_mem hp
  rw [List.length_zip] at hi
  rw [List.getElem_zip]
  exact (E i (by omega) (by omega)).1 (h i (by omega))
 ·intro h i hi
  refine (E i hi (by omega)).2 ?_
  have hz : i < (rs.zip os).length := by rw [List.length_zip]; omega
  have := h _ (List.getElem_mem hz)
  rw [List.getElem_zip] at this
  exact this
theorem same_symm {a b : Ky.T} (h : Ky.same a b.name b.key = false) : Ky.same b a.name a.key = false := by
 cases hs : Ky.same b a.name a.key with
 | false => rfl
 | true =>
  obtain ⟨e1, e2⟩ := Ky.same_iff.1 hs
  rw [Ky.same_iff.2 ⟨e1.symm, e2.symm⟩] at h
  cases h
theorem kyB_iff {rs : List Rn.R} {os : List ByteArray} (hl : rs.length = os.length) {l : List Ky.T} : kyB ((rs.zip os).map (·.2)) l = true ↔ Ky.Inv ⟨128, l⟩ ∧ ∀ k ∈ l, 1 ≤ k.key.size ∧ k.key.size ≤ 16 ∧ 1 ≤ k.id ∧ ∃ p, (rs.zip os)[(k.id - 1).toNat]? = some p ∧ p.2 = k.name := by
 have ho : (rs.zip os).map (·.2) = os := List.map_snd_zip (by omega)
 rw [ho]
 have HR : ∀ (n : ByteArray) (id : Int), hrB os n id = true ↔ 1 ≤ id ∧ ∃ p, (rs.zip os)[(id - 1).toNat]? = some p ∧ p.2 = n := fun n id => by
  unfold hrB
  rw [decide_eq_true_eq]
  constructor
  ·rintro ⟨h1, h2, h3⟩
   have hi : (id - 1).toNat < os.length := by omega
   have hz : (id - 1).toNat < (rs.zip os).length := by rw [List.length_zip]; omega
   rw [getD_at hi] at h3
   exact ⟨h1, _, List.getElem?_eq_getElem hz, by rw [List.getElem_zip]; exact h3⟩
  ·rintro ⟨h1, p, h2, h3⟩
   obtain ⟨hz, e⟩ := List.getElem?_eq_some_iff.1 h2
   rw [List.length_zip] at hz
   rw [List.getElem_zip] at e
   refine ⟨h1, by omega, ?_⟩
   rw [getD_at (by omega), ← h3, ← e]
 unfold kyB
 simp only [Bool.and_eq_true, decide_eq_true_eq, List.all_eq_true, List.mem_range]
 have E : ∀ i (hi : i < l.length), kyI os l i = true ↔ (1 ≤ l[i].key.size ∧ l[i].key.size ≤ 16) ∧ hrB os l[i].name l[i].id = true ∧ ∀ a ∈ l.take i, Ky.same a l[i].name l[i].key = false := fun i hi => by
  unfold kyI
  rw [getD_at hi, Bool.and_eq_true, Bool.and_eq_true, decide_eq_true_eq, all_same]
 constructor
 ·rintro ⟨h1, h2⟩
  refine ⟨⟨by show (1 : Int) ≤ 128; decide, by show (128 : Int) ≤ 128; decide, by show (l.length : Int) ≤ 128; omega, ?_⟩, fun k hk => ?_⟩
  ·rw [List.pairwise_iff_getElem]
   intro i j hi hj hij
   have hj' : j < l.length := hj
   exact same_symm (((E j hj').1 (h2 j hj')).2.2 _ (List.mem_iff_getElem.2 ⟨i, by rw [List.length_take]; omega, by rw [List.getElem_take]⟩))
  ·obtain ⟨i, hi, rfl⟩ := List.getElem_of_mem hk
   obtain ⟨a, b, _⟩ := (E i hi).1 (h2 i hi)
   obtain ⟨b1, b2⟩ := (HR _ _).1 b
   exact ⟨a.1, a.2, b1, b2⟩
 ·rintro ⟨hI, hk⟩
  have hlen : (l.length : Int) ≤ 128 := hI.few
  refine ⟨by omega, fun i hi => (E i hi).2 ?_⟩
  obtain ⟨a, b, c, d⟩ := hk _ (List.getElem_mem hi)
  exact ⟨⟨a, b⟩, (HR _ _).2 ⟨c, d⟩, Ky.Inv.fresh hI hi⟩
theorem frB_iff {t : Fw.St} : frB t = true ↔ Fw.Valid t := by
 unfold frB
 rw [Bool.and_eq_true, Bool.and_eq_true, Bool.and_eq_true, decide_eq_true_eq, dfB_iff, rnB_iff]
 have hb : ∀ n, Fw.lookD (mS t) n = Fw.lookD (Fw.build t) n := fun _ => rfl
 constructor
 ·rintro ⟨⟨c0, c1⟩, ⟨d1, d2, d3, d4, d5⟩, ⟨r1, r2, r3⟩, k⟩
  obtain ⟨k1, k2⟩ := (kyB_iff r2).1 k
  exact ⟨c0, c1, d3, d1, d4, d2.symm, d5, r1, r2.symm, fun p hp => ⟨(r3 p hp).1, (hb _).symm.trans (r3 p hp).2⟩, k1, k2⟩
 ·intro h
  exact ⟨⟨h.c0, h.c1⟩, ⟨h.nm, h.nt.symm, h.nn, h.nok, h.tok⟩, ⟨h.rm, h.ro.symm, fun p hp => ⟨(h.rok p hp).1, (hb _).trans (h.rok p hp).2⟩⟩, (kyB_iff h.ro.symm).2 ⟨h.ki, h.kok⟩⟩
end Go.Proofs.YtkbekojnmdgdgaaGreatDoor
/- FlFromC -/
namespace Go.Proofs.YtkbekojnmdgdgaaGreatDoor
open Go.RowKit
set_option maxRecDepth 20000
theorem dfsZ_ok {ns xs : List ByteArray} (h : dfB ns xs = true) : ∀ p ∈ dfsZ ns xs, Df.Ok p.2 ∧ Df.parse (Df.showT p.2) = (p.2, 0) := fun p hp => by
 obtain ⟨n, d⟩ := p
 obtain ⟨x, hx, rfl⟩ := List.mem_map.1 (List.of_mem_zip hp).2
 have h2 := ((dfB_iff.1 h).2.2.2.2 x hx).1
 obtain ⟨a, b⟩ := Df.parse_back (t := Fw.tx x) (d := (Df.parse (Fw.tx x)).1) (by rw [← h2])
 exact ⟨a, by rw [b.1]; exact b.2.2⟩
def FrG (w : World) (t : Fw.St) (e : Ending) (w' : World) : Prop :=
 Hid (frB t = true → ∃ g M R, e = .returned (.tuple #[.pointer (some ⟨g, 0, none⟩), .int .i64 0]) ∧ FP w' g M R (Fw.build t) ∧ ∀ i, R i → w.heap.size ≤ i) ∧ Hid (frB t = false → e = .returned (.tuple #[.pointer none, .int .i64 2])) ∧ Hid (Below w.heap.size w w')
theorem FrG.no {w w' : World} {t : Fw.St} (h : frB t = false) (hb : Below w.heap.size w w') : FrG w t (.returned (.tuple #[.pointer none, .int .i64 2])) w' :=
 ⟨Lib.hid fun e => (by rw [h] at e; cases e), Lib.hid fun _ => rfl, Lib.hid hb⟩
def svB (p : At5) (tc : Int) (n1 n2 n3 n4 n5 : Nat) : Array Value := #[.int .i64 tc, .slice p.N n1 p.cn, .slice p.X n2 p.cx, .slice p.R n3 p.cr, .slice p.F n4 p.cf, .slice p.K n5 p.ck]
theorem svB_at {w : World} {b : Nat} {p : At5} {tc : Int} {n1 n2 n3 n4 n5 : Nat} (h : w.heap[b]? = some (.cells (svB p tc n1 n2 n3 n4 n5) 57 (0, 0))) :
  w.cell? ⟨b, 0, none⟩ = some (.int .i64 tc) ∧ w.cell? ⟨b, 1, none⟩ = some (.slice p.N n1 p.cn) ∧ w.cell? ⟨b, 2, none⟩ = some (.slice p.X n2 p.cx) ∧ w.cell? ⟨b, 3, none⟩ = some (.slice p.R n3 p.cr) ∧ w.cell? ⟨b, 4, none⟩ = some (.slice p.F n4 p.cf) ∧ w.cell? ⟨b, 5, none⟩ = some (.slice p.K n5 p.ck) := by
 unfold svB at h
 refine ⟨?_, ?_, ?_, ?_, ?_, ?_⟩ <;> simp [World.cell?, h]
set_option maxHeartbeats 8000000 in
theorem from_any (t : Fw.St) (p : At5) (O : Nat → Prop) (w : World) (hF : FactsE w) (h : StO w O p t) (hsg : ∀ r ∈ t.runs, r.sg.length ≤ 1000) :
  Calls Tryz.prog 23 #[sv p t] w (FrG w t) := by
 obtain ⟨w1, hw1⟩ : ∃ w1, w1 = w.alloc (.cells (svB p t.clock t.names.length t.texts.length t.runs.length t.of.length t.keys.length) 57) := ⟨_, rfl⟩
 have B1 : Hid (Below w.heap.size w w1) := Lib.hid (by rw [hw1]; exact (Below.refl _ _).alloc (Nat.le_refl _) _)
 have X1 : Hid (w1.heap[w.heap.size]? = some (.cells (svB p t.clock t.names.length t.texts.length t.runs.length t.of.length t.keys.length) 57 (0, 0))) := Lib.hid (by rw [hw1]; exact heap_alloc_new _ _)
 have CN := Lib.hid (flowNew_any w1)
 have KD : Hid (∀ g s0 W, MadeF w1 g s0 W → s0.defs = [] → Calls Tryz.prog 46 #[.pointer (some ⟨g, 0, none⟩), .slice p.N t.names.length p.cn, .slice p.X t.texts.length p.cx] W (TkG w1 g (dfB t.names t.texts) { s0 with defs := dfsZ t.names t.texts })) :=
  Lib.hid fun g s0 W hM h0 => takeDefs_any hM h0 (hF.1.on B1.out) _ _ _ _ _ _ O (h.on B1.out).names (h.on B1.out).texts
 have KR : Hid (∀ g W, MadeF w1 g (mS t) W → dfB t.names t.texts = true → Calls Tryz.prog 47 #[.pointer (some ⟨g, 0, none⟩), .slice p.R t.runs.length p.cr, .slice p.F t.of.length p.cf] W (TkG w1 g (rnB (mS t) t.runs t.of) { mS t with runs := t.runs.zip t.of })) :=
  Lib.hid fun g W hM hd => takeRuns_any hM (dfsZ_ok hd) (hF.1.on B1.out) _ _ _ _ _ _ O (h.on B1.out).runs (h.on B1.out).of hsg
 have KK : Hid (∀ g W, MadeF w1 g { mS t with runs := t.runs.zip t.of } W → Calls Tryz.prog 48 #[.pointer (some ⟨g, 0, none⟩), .slice p.K t.keys.length p.ck] W (TkG w1 g (kyB ((t.runs.zip t.of).map (·.2)) t.keys) (Fw.build t))) :=
  Lib.hid fun g W hM => takeKeys_any hM rfl _ _ _ O (h.on B1.out).keys (h.on B1.out).kok
 have V : Hid (frB t = (decide (0 ≤ t.clock ∧ t.clock ≤ 1099511627776) && (dfB t.names t.texts && (rnB (mS t) t.runs t.of && kyB ((t.runs.zip t.of).map (·.2)) t.keys)))) := Lib.hid rfl
 have MD : Hid (∀ g W a, FPM W g a Fw.new → (∀ i, mine g a i ∨ a.Q i → w1.heap.size ≤ i) → Below w1.heap.size w1 W → MadeF w1 g { Fw.new with clock := t.clock } (W.setCell ⟨g, 0, none⟩ (.int .i64 t.clock))) := Lib.hid fun g W a q m b => by
  obtain ⟨q2, st⟩ := q.clock t.clock
  exact MadeF.step q m b q2 st
 have FE : Hid (∀ e W g, MadeF w1 g (Fw.build t) W → e = .returned (.tuple #[.pointer (some ⟨g, 0, none⟩), .int .i64 0]) → frB t = true → FrG w t e W) := Lib.hid fun e W g hM he hv => by
  obtain ⟨a, q, m, b⟩ := hM
  refine ⟨Lib.hid fun _ => ⟨g, _, _, he, q.fp, fun i hi => Nat.le_trans B1.out.size (m i hi)⟩, Lib.hid fun e => (by rw [hv] at e; cases e), Lib.hid (B1.out.trans (b.mono B1.out.size))⟩
 unfold sv
 have FN : Hid (∀ W, Below w.heap.size w W → frB t = false → FrG w t (.returned (.tuple #[.pointer none, .int .i64 2])) W) := Lib.hid fun W hb e => FrG.no e hb
 generalize dfB t.names t.texts = vd at *
 generalize rnB (mS t) t.runs t.of = vr at *
 generalize kyB ((t.runs.zip t.of).map (·.2)) t.keys = vk at *
 generalize frB t = v at *
 generalize t.names.length = n1 at *
 generalize t.texts.length = n2 at *
 generalize t.runs.length = n3 at *
 generalize t.of.length = n4 at *
 generalize t.keys.length = n5 at *
 have HC := Lib.hid h.clock
 generalize hcc : t.clock = c at *
 clear h hF hsg
 obtain ⟨c0, c1, c2, c3, c4, c5⟩ := svB_at X1.out
 have HW := Lib.hid hw1
 unfold svB at HW
 clear hw1
 go_enter Tryz.func23, Tryz.ntmps23
 go_upto_region 1 with (fail)
 rw [← HW.out]
 by_cases h0 : c < 0
 ·have R : Hid (v = false) := Lib.hid (by rw [V.out, decide_eq_false (by omega)]; rfl)
  clear HC
  go_wp2
  go_ret2
  exact FN.out _ B1.out R.out
 by_cases h1 : 1099511627776 < c
 ·have R : Hid (v = false) := Lib.hid (by rw [V.out, decide_eq_false (by omega)]; rfl)
  clear HC
  go_wp2
  go_ret2
  exact FN.out _ B1.out R.out
 have V1 : Hid (v = (vd && (vr && vk))) := Lib.hid (by rw [V.out, decide_eq_true (by omega)]; rfl)
 clear V
 go_wp2_with fail
 refine CN.out.mono ?_; rintro e w2 ⟨g, M, R, rfl, ⟨a, q, qm, qr⟩, hn, hb⟩
 have M3 := Lib.hid (MD.out g w2 a q (fun i hi => hn i ((qr i).2 hi)) hb)
 clear MD CN h0 h1
 have GW : Hid (w.heap.size < w1.heap.size) := Lib.hid (lt_of_block X1.out)
 obtain ⟨⟨G0, -⟩, G1, -⟩ := q.cells
 have X2 := Lib.hid ((hb.block _ (lt_of_block X1.out)).trans X1.out)
 clear c0 c1 c2 c3 c4 c5
 obtain ⟨c0, c1, c2, c3, c4, c5⟩ := svB_at X2.out
 generalize hw3 : w2.setCell ⟨g, 0, none⟩ (.int .i64 c) = w3 at M3
 clear q qm qr hn hb
 go_upto_region 5 with (fail)
 obtain ⟨-, -, -, b3⟩ := M3.out
 have X3 := Lib.hid ((b3.block _ GW.out).trans X1.out)
 clear hw3 b3 c0 c1 c2 c3 c4 c5 X2 G0 G1
 obtain ⟨c0, c1, c2, c3, c4, c5⟩ := svB_at X3.out
 have KD3 := Lib.hid (KD.out g _ _ M3.out rfl)
 clear KD c0 c5
 go_wp2_with fail
 refine KD3.out.mono ?_; rintro e w4 ⟨rfl, h4⟩
 have B4 : Hid (Below w.heap.size w w4) := Lib.hid (by
  obtain ⟨s2, ⟨_, _, _, b⟩, _⟩ := h4.out
  exact B1.out.trans (b.mono B1.out.size))
 have X4 : Hid (w4.heap[w.heap.size]? = some (.cells (svB p c n1 n2 n3 n4 n5) 57 (0, 0))) := Lib.hid (by
  obtain ⟨s2, ⟨_, _, _, b⟩, _⟩ := h4.out
  exact (b.block _ GW.out).trans X1.out)
 clear c1 c2 c3 c4 X3 KD3 M3
 cases hvd : vd with
 | false =>
  have R : Hid (v = false) := Lib.hid (by rw [V1.out, hvd]; rfl)
  clear hvd KR KK V1 h4 X4 hcc FE
  go_wp2
  go_ret2
  exact FN.out _ B4.out R.out
 | true =>
 have V2 : Hid (v = (vr && vk)) := Lib.hid (by rw [V1.out, hvd]; rfl)
 have M4 : Hid (MadeF w1 g (mS t) w4) := Lib.hid (by
  obtain ⟨s2, m, e⟩ := h4.out
  have e2 := e hvd
  rw [e2, ← hcc] at m
  exact m)
 have KR4 := Lib.hid (KR.out g w4 M4.out hvd)
 clear hvd V1 KR h4
 obtain ⟨-, -, -, c3, c4, -⟩ := svB_at X4.out
 go_wp2_with fail
 refine KR4.out.mono ?_; rintro e w5 ⟨rfl, h5⟩
 have B5 : Hid (Below w.heap.size w w5) := Lib.hid (by
  obtain ⟨s2, ⟨_, _, _, b⟩, _⟩ := h5.out
  exact B1.out.trans (b.mono B1.out.size))
 have X5 : Hid (w5.heap[w.heap.size]? = some (.cells (svB p c n1 n2 n3 n4 n5) 57 (0, 0))) := Lib.hid (by
  obtain ⟨s2, ⟨_, _, _, b⟩, _⟩ := h5.out
  exact (b.block _ GW.out).trans X1.out)
 clear c3 c4 X4 KR4 M4 B4
 cases hvr : vr with
 | false =>
  have R : Hid (v = false) := Lib.hid (by rw [V2.out, hvr]; rfl)
  clear hvr KK V2 h5 X5 hcc FE
  go_wp2
  go_ret2
  exact FN.out _ B5.out R.out
 | true =>
 have V3 : Hid (v = vk) := Lib.hid (by rw [V2.out, hvr]; rfl)
 have M5 : Hid (MadeF w1 g { mS t with runs := t.runs.zip t.of } w5) := Lib.hid (by
  obtain ⟨s2, m, e⟩ := h5.out
  rw [e hvr] at m
  exact m)
 have KK5 := Lib.hid (KK.out g w5 M5.out)
 clear hvr V2 KK h5
 obtain ⟨-, -, -, -, -, c5⟩ := svB_at X5.out
 go_wp2_with fail
 refine KK5.out.mono ?_; rintro e w6 ⟨rfl, h6⟩
 have B6 : Hid (Below w.heap.size w w6) := Lib.hid (by
  obtain ⟨s2, ⟨_, _, _, b⟩, _⟩ := h6.out
  exact B1.out.trans (b.mono B1.out.size))
 clear c5 X5 KK5 M5 B5
 cases hvk : vk with
 | false =>
  have R : Hid (v = false) := Lib.hid (by rw [V3.out, hvk])
  clear hvk V3 h6 hcc FE
  go_wp2
  go_ret2
  exact FN.out _ B6.out R.out
 | true =>
 have R : Hid (v = true) := Lib.hid (by rw [V3.out, hvk])
 have M6 : Hid (MadeF w1 g (Fw.build t) w6) := Lib.hid (by
  obtain ⟨s2, m, e⟩ := h6.out
  rw [e hvk] at m
  exact m)
 clear hvk V3 h6 hcc FN
 go_wp2
 go_ret2
 exact FE.out _ _ g M6.out rfl R.out
end Go.Proofs.YtkbekojnmdgdgaaGreatDoor
/- FlState -/
namespace Go.Proofs.YtkbekojnmdgdgaaGreatDoor
open Go.RowKit
set_option maxRecDepth 20000
theorem Fw.Valid.dOk {t : Fw.St} (h : Fw.Valid t) : ∀ p ∈ (Fw.build t).defs, Df.Ok p.2 := fun p hp => (dfsZ_ok (dfB_iff.2 ⟨h.nm, h.nt.symm, h.nn, h.nok, h.tok⟩) p hp).1
theorem Fw.Valid.sound {t : Fw.St} (h : Fw.Valid t) : Sound (Fw.build t) where
 bd := fun p hp => runV_bd (h.rok p hp).1 (h.dOk _ (Fw.look_mem (h.rok p hp).2))
 st := fun p hp => by have h2 := (h.rok p hp).1.st0; have h3 := (h.rok p hp).1.st3; exact ⟨by omega, by omega⟩
 ki := h.ki
 c := by have h1 := h.c0; have h2 := h.c1; exact ⟨by show _ ≤ t.clock; omega, by show t.clock ≤ _; omega⟩
 nd := fun p hp => by
  have h1 := (Df.isName_len (l := Fw.tx p.1) (h.nok p.1 (List.of_mem_zip (show (p.1, p.2) ∈ _ from hp)).1)).2
  exact Nat.le_trans (Nat.le_of_eq (Array.length_toList ..).symm) h1
 no := fun p hp => by
  have h2 := Fw.look_mem (h.rok p hp).2
  have h1 := (Df.isName_len (l := Fw.tx p.2) (h.nok p.2 (List.of_mem_zip h2).1)).2
  exact Nat.le_trans (Nat.le_of_eq (Array.length_toList ..).symm) h1
theorem Fw.Fine.sound {s : Fw.S} (h : Fw.Fine s) : Sound s := by
 rcases h with h | ⟨t, h, rfl⟩
 ·exact h.sound
 ·exact h.sound
theorem Fw.Valid.sgs {t : Fw.St} (h : Fw.Valid t) : ∀ r ∈ t.runs, r.sg.length ≤ 1000 := fun r hr => by
 obtain ⟨i, hi, rfl⟩ := List.getElem_of_mem hr
 have hl := h.ro
 have hlt : i < (t.runs.zip t.of).length := by rw [List.length_zip]; omega
 have hz := List.getElem_mem hlt
 rw [List.getElem_zip] at hz
 obtain ⟨h1, h2⟩ := h.rok _ hz
 have hd := h.dOk _ (Fw.look_mem h2)
 refine Nat.le_trans (nodup_len t.runs[i].sg (t.runs[i].d.map (·.on)) h1.nodup fun x hx => ?_) (by rw [List.length_map]; exact Nat.le_trans hd.n16 (by omega))
 obtain ⟨_, k, hk, e⟩ := h1.sigs x hx
 exact List.mem_map.2 ⟨k, hk, e⟩
theorem flowState_any (g : Nat) (M R : Nat → Prop) (s : Fw.S) (w : World) (h : FP w g M R s) (hI : Fw.Fine s) :
  Calls Tryz.prog 24 #[.pointer (some ⟨g, 0, none⟩)] w fun e w' => ∃ p, e = .returned (sv p (Fw.stateV s)) ∧ Hid (StO w' (since w) p (Fw.stateV s)) ∧ Hid (Below w.heap.size w w') := by
 obtain ⟨a, h, -, -⟩ := h
 exact state_any h hI.sound
theorem flowFrom_ok (t : Fw.St) (p : At5) (O : Nat → Prop) (w : World) (hF : FactsE w) (h : StO w O p t) (hV : Fw.Valid t) :
  Calls Tryz.prog 23 #[sv p t] w fun e w' => ∃ g M R, e = .returned (.tuple #[.pointer (some ⟨g, 0, none⟩), .int .i64 0]) ∧ FP w' g M R (Fw.build t) ∧ (∀ i, R i → w.heap.size ≤ i) ∧ Below w.heap.size w w' := by
 refine (from_any t p O w hF h hV.sgs).mono ?_
 rintro e w' ⟨h1, -, h2⟩
 obtain ⟨g, M, R, a, b, c⟩ := h1.out (frB_iff.2 hV)
 exact ⟨g, M, R, a, b, c, h2.out⟩
end Go.Proofs.YtkbekojnmdgdgaaGreatDoor
/- FlTwo -/
namespace Go.Proofs.YtkbekojnmdgdgaaGreatDoor
open Go.RowKit
structure FTwo (w0 w : World) (f g : Nat) (s r : Fw.S) : Prop where
 mem : ∃ M R N Q, FP w f M R s ∧ FP w g N Q r ∧ (∀ k, R k → w0.heap.size ≤ k) ∧ (∀ k, Q k → w0.heap.size ≤ k) ∧ (∀ k, M k → ¬ Q k) ∧ ∀ k, N k → ¬ R k
 below : Below w0.heap.size w0 w
 inv : Fw.Inv s
 inv2 : Fw.Inv r
 facts : FactsE w0
section
variable {w0 w w' : World} {f g : Nat} {s r : Fw.S}
theorem FTwo.fe (h : FTwo w0 w f g s r) : FactsE w := h.facts.on h.below
theorem FTwo.swap (h : FTwo w0 w f g s r) : FTwo w0 w g f r s := by
 obtain ⟨M, R, N, Q, p, q, h1, h2, h3, h4⟩ := h.mem
 exact ⟨⟨N, Q, M, R, q, p, h2, h1, h4, h3⟩, h.below, h.inv2, h.inv, h.facts⟩
theorem FTwo.on (h : FTwo w0 w f g s r) (hb : Below w.heap.size w w') : FTwo w0 w' f g s r := by
 obtain ⟨M, R, N, Q, p, q, h1, h2, h3, h4⟩ := h.mem
 exact ⟨⟨M, R, N, Q, p.keep hb.size fun i hi => hb.block i (p.lt i hi), q.keep hb.size fun i hi => hb.block i (q.lt i hi), h1, h2, h3, h4⟩, h.below.trans (hb.mono h.below.size), h.inv, h.inv2, h.facts⟩
theorem twoApply (h : FTwo w0 w f g s r) (e : Ev.E) (he : EvIn e) : Calls Tryz.prog 11 #[.pointer (some ⟨f, 0, none⟩), .agg (evc e)] w fun x w' => x = .returned (.int .i64 (Fw.err s e)) ∧ Hid (FTwo w0 w' f g (Fw.step s e) r) ∧ Hid (Below w0.heap.size w0 w') := by
 obtain ⟨M, R, N, Q, p, q, h1, h2, h3, h4⟩ := h.mem
 refine (flowApply_any f M R s e w h.fe p h.inv he).mono ?_
 rintro x w' ⟨rfl, M2, R2, p2, st⟩
 have hb : Below w0.heap.size w0 w' := h.below.trans (st.only.below h.below.size fun k hk => h1 k (p.sub k hk))
 refine ⟨rfl, Lib.hid ⟨⟨M2, R2, N, Q, p2, q.keep st.only.size fun i hi => st.only.block i (q.lt i hi) fun hm => h3 i hm hi, fun k hk => ?_, h2, fun k hm hq => ?_, fun k hn hr => ?_⟩, hb, h.inv.step e, h.inv2, h.facts⟩, Lib.hid hb⟩
 ·rcases st.r k hk with h5 | h5
  ·exact h1 k h5
  ·exact Nat.le_trans h.below.size h5
 ·rcases st.m k hm with h5 | h5
  ·exact h3 k h5 hq
  ·have := q.lt k hq; omega
 ·rcases st.r k hr with h5 | h5
  ·exact h4 k hn h5
  ·have := q.lt k (q.sub k hn); omega
theorem twoPut (h : FTwo w0 w f g s r) (k u t y n : Int) (na ke da : ByteArray) (he : EvIn ⟨k, u, t, y, n, na, ke, da⟩) {x : Int} (hx : Fw.err s ⟨k, u, t, y, n, na, ke, da⟩ = x) :
  Calls Tryz.prog 11 #[.pointer (some ⟨f, 0, none⟩), .agg #[.int .i64 k, .int .i64 u, .int .i64 t, .int .i64 y, .int .i64 n, .string na, .string ke, .string da]] w
   fun e w' => e = .returned (.int .i64 x) ∧ Hid (FTwo w0 w' f g (Fw.step s ⟨k, u, t, y, n, na, ke, da⟩) r) ∧ Hid (Below w0.heap.size w0 w') := by
 subst hx
 exact twoApply h ⟨k, u, t, y, n, na, ke, da⟩ he
theorem twoSame (h : FTwo w0 w f g s r) {b : Bool} (hb : decide (s = r) = b) :
  Calls Tryz.prog 19 #[.pointer (some ⟨f, 0, none⟩), .pointer (some ⟨g, 0, none⟩)] w fun e w' => e = .returned (.bool b) ∧ Hid (FTwo w0 w' f g s r) ∧ Hid (Below w.heap.size w w') := by
 subst hb
 obtain ⟨M, R, N, Q, p, q, h1, h2, h3, h4⟩ := h.mem
 exact (flowSame_any f M R s g N Q r w p h.inv q h.inv2 h.fe).mono fun e w' ⟨h5, h6⟩ => ⟨h5, Lib.hid (h.on h6.out), h6⟩
end
theorem FTwo.of {w0 w w' : World} {f g : Nat} {s r : Fw.S} {N Q : Nat → Prop} (h : FOne w0 w f s noF) (hq : FP w' g N Q r) (hn : ∀ k, Q k → w.heap.size ≤ k) (hb : Below w.heap.size w w') (hI : Fw.Inv r) : FTwo w0 w' f g s r := by
 obtain ⟨M, R, p, h1, -⟩ := h.mem
 refine ⟨⟨M, R, N, Q, p.keep hb.size fun i hi => hb.block i (p.lt i hi), hq, h1, fun k hk => Nat.le_trans h.below.size (hn k hk), fun k hm hk => ?_, fun k hk hr => ?_⟩, h.below.trans (hb.mono h.below.size), h.inv, hI, h.facts⟩
 ·have := p.lt k (p.sub k hm)
  have := hn k hk
  omega
 ·have := hn k (hq.sub k hk)
  have := p.lt k hr
  omega
end Go.Proofs.YtkbekojnmdgdgaaGreatDoor
/- FlStates -/
namespace Go.Proofs.YtkbekojnmdgdgaaGreatDoor
open Go.RowKit
set_option maxRecDepth 20000
theorem fState {w0 w : World} {T : Nat} {s : Fw.S} {G : Nat → Prop} (h : FOne w0 w T s G) :
  Calls Tryz.prog 24 #[.pointer (some ⟨T, 0, none⟩)] w fun e w' => ∃ p, e = .returned (sv p (Fw.stateV s)) ∧ Hid (StO w' (since w) p (Fw.stateV s)) ∧ Hid (Below w.heap.size w w') := by
 obtain ⟨M, R, p, h1, h2⟩ := h.mem
 exact flowState_any T M R s w p (.inl h.inv)
theorem fFromBack {w : World} {s : Fw.S} {p : At5} {O : Nat → Prop} (hI : Fw.Inv s) (h : StO w O p (Fw.stateV s)) (hF : FactsE w) :
  Calls Tryz.prog 23 #[sv p (Fw.stateV s)] w fun e w' => ∃ g N Q, e = .returned (.tuple #[.pointer (some ⟨g, 0, none⟩), .int .i64 0]) ∧ Hid (FP w' g N Q s ∧ ∀ i, Q i → w.heap.size ≤ i) ∧ Hid (Below w.heap.size w w') := by
 have := flowFrom_ok _ p O w hF h hI.valid
 rw [hI.back] at this
 exact this.mono fun e w' ⟨g, N, Q, h1, h2, h3, h4⟩ => ⟨g, N, Q, h1, Lib.hid ⟨h2, h3⟩, Lib.hid h4⟩
theorem FTwo.drew {w0 w : World} {f g : Nat} {s r : Fw.S} (h : FTwo w0 w f g s r) : FTwo w0 w.drew f g s r := h.on (Below.refl _ _).drew
set_option maxHeartbeats 8000000 in
theorem states_walk (A : Option Addr) (ca : Nat) (la : List Ev.E) (B : Option Addr) (cb : Nat) (lb : List Ev.E) (w : World) (hF : FactsE w) (ha : EvsR w w.heap.size A la) (hca : la.length ≤ ca) (hb : EvsR w w.heap.size B lb) :
  Calls Tryz.prog 4 #[.slice A la.length ca, .slice B lb.length cb] w (BoolP w true) := by
 have AW := Lib.hid (awake_any w hF)
 have HA := Lib.hid ha
 have HB := Lib.hid hb
 have HF := Lib.hid hF
 have HCA := Lib.hid hca
 obtain ⟨p, hp⟩ : ∃ p, p = la.length := ⟨_, rfl⟩
 obtain ⟨q, hq⟩ : ∃ q, q = lb.length := ⟨_, rfl⟩
 have HP := Lib.hid hp
 have HQ := Lib.hid hq
 rw [← hp, ← hq]
 clear hF ha hb hca hp hq
 go_enter Tryz.func4, Tryz.ntmps4
 go_wp2_with fail
 (with_reducible refine AW.out.mono ?_); rintro e w1 ⟨rfl, b1⟩
 clear AW
 by_cases hp1 : 40 < p
 ·have hp1' : 40 < (p : Int) := by omega
  go_wp2
  go_ret
  exact ⟨rfl, b1⟩
 have hp1' : ¬ 40 < (p : Int) := by omega
 by_cases hq1 : 20 < q
 ·have hq1' : 20 < (q : Int) := by omega
  go_wp2
  go_ret
  exact ⟨rfl, b1⟩
 have hq1' : ¬ 20 < (q : Int) := by omega
 have NP : Hid (p ≤ 40) := Lib.hid (by omega)
 have NQ : Hid (q ≤ 20) := Lib.hid (by omega)
 clear hp1 hq1
 go_wp2_with fail
 go_loopw [5] (fun iv wr => ∃ i : Nat, i ≤ p ∧ iv = .int .i64 i ∧ Below w.heap.size w wr) (fun iv _ => p - (intOf iv).toNat)
 case atStart => exact ⟨0, Nat.zero_le _, rfl, b1.out⟩
 case round =>
  obtain ⟨i, hi, rfl, hbw⟩ := hrel
  have BW := Lib.hid hbw
  clear hbw
  by_cases hlt : i < p
  ·have hlt' : (i : Int) < (p : Int) := by omega
   obtain ⟨b, off, k, r, t, y, n, na, ke, da, rfl, hn, hg, hin, c0, c1, c2, c3, c4, c5, c6, c7⟩ := (HA.out.below BW.out).ev (i := i) (by rw [← HP.out]; exact hlt)
   have HV := Lib.hid (heavy_any k r t y n na ke da hin.out wr)
   generalize Ev.heavyV ⟨k, r, t, y, n, na, ke, da⟩ = hv at *
   clear HA hg hin
   go_wp2_with fail
   (with_reducible refine HV.out.mono ?_); rintro e w2 ⟨rfl, b2⟩
   have B2 : Hid (Below w.heap.size w w2) := Lib.hid (BW.out.trans (b2.out.mono BW.out.size))
   clear c0 c1 c2 c3 c4 c5 c6 c7 HV
   cases hv with
   | true =>
    go_wp2
    go_ret
    exact ⟨rfl, B2⟩
   | false =>
    go_wp2
    refine ⟨⟨i + 1, by omega, by go_num, B2.out⟩, ?_⟩
    simp [intOf]; omega
  ·obtain rfl : p = i := by omega
   have AL := Lib.hid (fAll la A ca wr (HF.out.on BW.out) ((HA.out.below BW.out).more BW.out.size) HCA.out (by have := HP.out; have := NP.out; omega) (n := p) HP.out.symm)
   go_wp2_with fail
   (with_reducible refine AL.out.mono ?_); rintro e w2 ⟨f, rfl, O2, B2⟩
   have ST := Lib.hid (fState O2.out)
   clear AL
   generalize Fw.all la = s at *
   go_wp2_with fail
   (with_reducible refine ST.out.mono ?_); rintro e w3 ⟨pp, rfl, S3, B3⟩
   have FB := Lib.hid (fFromBack O2.out.inv S3.out (O2.out.fe.on B3.out))
   generalize sv pp (Fw.stateV s) = v at *
   clear ST S3
   go_wp2_with fail
   (with_reducible refine FB.out.mono ?_); rintro e w4 ⟨g, N, Q, rfl, Q4, B4⟩
   have T4 := Lib.hid (FTwo.of (O2.out.on B3.out) Q4.out.1 Q4.out.2 B4.out O2.out.inv)
   clear FB Q4
   have SM := Lib.hid (twoSame T4.out (b := true) (by simp))
   go_wp2_with fail
   (with_reducible refine SM.out.mono ?_); rintro e w5 ⟨rfl, T5, B5⟩
   clear SM T4
   go_wp2_with fail
   go_loopw [9] (fun iv wx => ∃ (j : Nat) (s' : Fw.S), j ≤ q ∧ iv = .int .i64 j ∧ FTwo wr wx f g s' s') (fun iv _ => q - (intOf iv).toNat)
   case atStart => exact ⟨0, _, Nat.zero_le _, rfl, T5.out⟩
   case round =>
    obtain ⟨j, s', hj, rfl, ht⟩ := hrel
    have TX := Lib.hid ht
    clear ht
    have BX : Hid (Below w.heap.size w wr) := Lib.hid (BW.out.trans (TX.out.below.mono BW.out.size))
    by_cases hlt2 : j < q
    ·have hlt2' : (j : Int) < (q : Int) := by omega
     obtain ⟨b, off, k, r, t, y, n, na, ke, da, rfl, hn, hg, hin, e0, e1, e2, e3, e4, e5, e6, e7⟩ := (HB.out.below BX.out).ev (i := j) (by rw [← HQ.out]; exact hlt2)
     have HV := Lib.hid (heavy_any k r t y n na ke da hin.out wr)
     generalize Ev.heavyV ⟨k, r, t, y, n, na, ke, da⟩ = hv at *
     clear HB hg
     go_wp2_with fail
     (with_reducible refine HV.out.mono ?_); rintro e w6 ⟨rfl, b6⟩
     have T6 := Lib.hid (TX.out.on b6.out)
     cases hv with
     | true =>
      go_wp2
      go_ret
      exact ⟨rfl, Lib.hid (BX.out.trans (b6.out.mono BX.out.size))⟩
     | false =>
      have B6 : Hid (Below w.heap.size w w6) := Lib.hid (BX.out.trans (b6.out.mono BX.out.size))
      have CE : Hid (∀ W, Below w.heap.size w W → W.cell? ⟨b, off + j * 8, none⟩ = some (.int .i64 k) ∧ W.cell? ⟨b, off + j * 8 + 1, none⟩ = some (.int .i64 r) ∧ W.cell? ⟨b, off + j * 8 + 2, none⟩ = some (.int .i64 t) ∧ W.cell? ⟨b, off + j * 8 + 3, none⟩ = some (.int .i64 y) ∧ W.cell? ⟨b, off + j * 8 + 4, none⟩ = some (.int .i64 n) ∧ W.cell? ⟨b, off + j * 8 + 5, none⟩ = some (.string na) ∧ W.cell? ⟨b, off + j * 8 + 6, none⟩ = some (.string ke) ∧ W.cell? ⟨b, off + j * 8 + 7, none⟩ = some (.string da)) := Lib.hid fun W hW => by
       have hc : ∀ o, W.cell? ⟨b, o, none⟩ = wr.cell? ⟨b, o, none⟩ := fun o => (hW.cell (p := ⟨b, o, none⟩) hn.out).trans (BX.out.cell (p := ⟨b, o, none⟩) hn.out).symm
       exact ⟨(hc _).trans e0, (hc _).trans e1, (hc _).trans e2, (hc _).trans e3, (hc _).trans e4, (hc _).trans e5, (hc _).trans e6, (hc _).trans e7⟩
      obtain ⟨x, hx⟩ : ∃ x, Fw.err s' ⟨k, r, t, y, n, na, ke, da⟩ = x := ⟨_, rfl⟩
      have HX := Lib.hid hx
      have AF := Lib.hid (twoPut T6.out.drew k r t y n na ke da hin.out hx)
      clear hx
      have HI := hin
      clear e0 e1 e2 e3 e4 e5 e6 e7 HV hin
      obtain ⟨e0, e1, e2, e3, e4, e5, e6, e7⟩ := CE.out w6 B6.out
      go_upto_region 19 with (fail)
      go_region_held3 (fun w' => w'.cell? ⟨b, off + j * 8, none⟩ = some (.int .i64 k) ∧ w'.cell? ⟨b, off + j * 8 + 1, none⟩ = some (.int .i64 r) ∧ w'.cell? ⟨b, off + j * 8 + 2, none⟩ = some (.int .i64 t) ∧ w'.cell? ⟨b, off + j * 8 + 3, none⟩ = some (.int .i64 y) ∧ w'.cell? ⟨b, off + j * 8 + 4, none⟩ = some (.int .i64 n) ∧ w'.cell? ⟨b, off + j * 8 + 5, none⟩ = some (.string na) ∧ w'.cell? ⟨b, off + j * 8 + 6, none⟩ = some (.string ke) ∧ w'.cell? ⟨b, off + j * 8 + 7, none⟩ = some (.string da)) (first | (exact CE.out _ B7.out) | (exact CE.out _ B8.out) | (exact CE.out _ B9.out) | go_keep)
       (first
        | ((with_reducible refine AF.out.mono ?_); rintro e w7 ⟨rfl, T7, b7⟩; have B7 := Lib.hid (BW.out.trans (b7.out.mono BW.out.size)); have AG := Lib.hid (twoPut T7.out.swap k r t y n na ke da HI.out HX.out))
        | ((with_reducible refine AG.out.mono ?_); rintro e w8 ⟨rfl, T8, b8⟩; have B8 := Lib.hid (BW.out.trans (b8.out.mono BW.out.size)); have SM := Lib.hid (twoSame T8.out.swap (b := true) (by simp)))
        | ((with_reducible refine SM.out.mono ?_); rintro e w9 ⟨rfl, T9, b9⟩; have B9 := Lib.hid (B8.out.trans (b9.out.mono B8.out.size))))
      clear e0 e1 e2 e3 e4 e5 e6 e7 AF
      go_wp2
      refine ⟨⟨j + 1, _, by omega, by go_num, T9.out⟩, ?_⟩
      simp [intOf]; omega
    ·obtain rfl : q = j := by omega
     go_wp2
     go_ret
     exact ⟨rfl, BX⟩
end Go.Proofs.YtkbekojnmdgdgaaGreatDoor
