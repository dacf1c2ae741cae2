/-
  Part 29 of the texts behind the law: TFlStart, TFlChanged.
-/
import Derived.Test.YtkbekojnmdgdgaaGreatDoorTf24
import Derived.Test.YtkbekojnmdgdgaaGreatDoorTf9
import Derived.Test.YtkbekojnmdgdgaaGreatDoorTf25
import Derived.Test.YtkbekojnmdgdgaaGreatDoorTf28
import Derived.BigQuiet
import Derived.Deep.RegionHeld3
import Derived.Test.YtkbekojnmdgdgaaGreatDoorTf22
import Derived.Test.YtkbekojnmdgdgaaGreatDoorTf23
import Derived.Test.YtkbekojnmdgdgaaGreatDoorTf21
/- FlStart -/
namespace Go.Proofs.YtkbekojnmdgdgaaGreatDoor
open Go.RowKit Go.Maps
set_option maxRecDepth 20000
def Fw.staS (s : Fw.S) (e : Ev.E) : Fw.S := if Fw.startE s e = 0 then Fw.startS s e else s
structure Kp3 (w w' : World) (g x z : Nat) : Prop where
 g : w'.heap[g]? = w.heap[g]?
 x : w'.heap[x]? = w.heap[x]?
 z : w'.heap[z]? = w.heap[z]?
theorem Kp3.of {w w' : World} {g x z : Nat} (hb : Below w.heap.size w w') (hg : g < w.heap.size) (hx : x < w.heap.size) (hz : z < w.heap.size) : Kp3 w w' g x z := ⟨hb.block _ hg, hb.block _ hx, hb.block _ hz⟩
theorem Kp3.trans {a b c : World} {g x z : Nat} (h : Kp3 a b g x z) (k : Kp3 b c g x z) : Kp3 a c g x z := ⟨k.g.trans h.g, k.x.trans h.x, k.z.trans h.z⟩
theorem Kp3.grown {w w' : World} {g x z : Nat} {A : Option Addr} {n c : Nat} (h : w.grownBy w' (Value.slice A n c).ownBlock) (hg : g < w.heap.size ∧ ¬ isB A g) (hx : x < w.heap.size ∧ ¬ isB A x) (hz : z < w.heap.size ∧ ¬ isB A z) : Kp3 w w' g x z :=
 ⟨grown_keep h _ hg.1 hg.2, grown_keep h _ hx.1 hx.2, grown_keep h _ hz.1 hz.2⟩
theorem getB_none {s : Fw.S} (hI : Fw.Inv s) (n : ByteArray) : Ky.getB (Fw.ks s) n ⟨#[]⟩ = false := by
 unfold Ky.getB Ky.findV
 rw [Option.isSome_eq_false_iff, Option.isNone_iff_eq_none, List.find?_eq_none]
 intro t ht hs
 have := (hI.kok t ht).1
 unfold Ky.same at hs
 simp only [Bool.and_eq_true, decide_eq_true_eq] at hs
 rw [hs.2] at this
 exact absurd this (by decide)
def nwC (W : World) (g X Z : Nat) (a : FAt) (m : Nat) (na : ByteArray) (p : At3) (n : Nat) (st : Int) (t l : Nat) : Prop :=
 W.cell? ⟨g, 2, none⟩ = some (.slice a.R m a.cr) ∧ W.cell? ⟨g, 3, none⟩ = some (.slice a.F m a.cf) ∧ W.cell? ⟨X, 5, none⟩ = some (.string na) ∧ W.cell? ⟨Z, 0, none⟩ = some (.slice p.A n p.ca) ∧ W.cell? ⟨Z, 1, none⟩ = some (.int .i64 st) ∧ W.cell? ⟨Z, 2, none⟩ = some (.slice p.T t p.ct) ∧ W.cell? ⟨Z, 3, none⟩ = some (.slice p.S l p.cs)
theorem nwC.kept {w W : World} {g X Z : Nat} {a : FAt} {m : Nat} {na : ByteArray} {p : At3} {n : Nat} {st : Int} {t l : Nat} (h : nwC w g X Z a m na p n st t l) (k : Kp3 w W g X Z) : nwC W g X Z a m na p n st t l := by
 obtain ⟨h0, h1, h2, h3, h4, h5, h6⟩ := h
 exact ⟨(World.cell?_of_block (w := w) k.g).trans h0, (World.cell?_of_block (w := w) k.g).trans h1, (World.cell?_of_block (w := w) k.x).trans h2, (World.cell?_of_block (w := w) k.z).trans h3, (World.cell?_of_block (w := w) k.z).trans h4, (World.cell?_of_block (w := w) k.z).trans h5, (World.cell?_of_block (w := w) k.z).trans h6⟩
set_option maxHeartbeats 4000000 in
theorem start_any {w : World} {g : Nat} {a : FAt} {s : Fw.S} (h : FPM w g a s) (hI : Fw.Inv s) (hF : FactsE w) (e : Ev.E) (he : EvIn e) :
  Calls Tryz.prog 30 #[.pointer (some ⟨g, 0, none⟩), .agg (evc e)] w (ActG w g a (Fw.startE s e) (Fw.staS s e)) := by
 obtain ⟨kd, ru, ta, tr, nn, na, ke, da⟩ := e
 have HE := Lib.hid he
 have V : Hid (Fw.startE s ⟨kd, ru, ta, tr, nn, na, ke, da⟩ = if (Fw.lookD s na).isNone = true then 4 else if ke.size ≠ 0 ∧ Ky.getB (Fw.ks s) na ke = true then 5 else if 64 ≤ s.runs.length then 6 else if ru ≠ s.runs.length + 1 then 1 else 0) := Lib.hid rfl
 have VS : Hid (Fw.staS s ⟨kd, ru, ta, tr, nn, na, ke, da⟩ = if Fw.startE s ⟨kd, ru, ta, tr, nn, na, ke, da⟩ = 0 then { s with runs := s.runs ++ [(Rn.newS ((Fw.lookD s na).getD []), na)], keys := if ke.size = 0 then s.keys else (Ky.putS (Fw.ks s) na ke ru).l } else s) := Lib.hid rfl
 have LM : Hid (∀ d, Fw.lookD s na = some d → Df.Ok d) := Lib.hid fun d hd => (hI.dok _ (Fw.look_mem hd)).2.1
 generalize Fw.startE s ⟨kd, ru, ta, tr, nn, na, ke, da⟩ = v at *
 generalize Fw.staS s ⟨kd, ru, ta, tr, nn, na, ke, da⟩ = s2 at *
 obtain ⟨w1, hw1⟩ : ∃ w1, w1 = w.alloc (.cells (evc ⟨kd, ru, ta, tr, nn, na, ke, da⟩) 28) := ⟨_, rfl⟩
 have B1 : Hid (Below w.heap.size w w1) := Lib.hid (by rw [hw1]; exact (Below.refl _ _).alloc (Nat.le_refl _) _)
 have X1 : Hid (w1.heap[w.heap.size]? = some (.cells (evc ⟨kd, ru, ta, tr, nn, na, ke, da⟩) 28 (0, 0))) := Lib.hid (by rw [hw1]; exact evBox _ _ _)
 have CD := Lib.hid (def_any (h.on B1.out) (fun p hp => (hI.dok p hp).2.2) (hF.on B1.out).d na)
 have HF := Lib.hid hF
 have H := Lib.hid h
 have HI := Lib.hid hI
 generalize Fw.lookD s na = o at *
 clear h hF hI he
 obtain ⟨x0, x1, x2, x3, x4, x5, x6, x7⟩ := ev8 X1.out
 clear x0 x1 x2 x3 x4 x6 x7
 unfold evc at hw1 ⊢
 dsimp only at hw1 x5 ⊢
 unfold DefG at CD
 go_enter Tryz.func30, Tryz.ntmps30
 go_upto_region 1 with (fail)
 rw [← hw1]
 clear hw1
 go_wp2_with fail
 refine CD.out.mono ?_; rintro r w2 ⟨A2, ca2, rfl, d2, b2⟩
 have X2 : Hid (w2.heap[w.heap.size]? = some (.cells (evc ⟨kd, ru, ta, tr, nn, na, ke, da⟩) 28 (0, 0))) := Lib.hid ((b2.out.block _ (lt_of_block X1.out)).trans X1.out)
 have B2 : Hid (Below w.heap.size w w2) := Lib.hid (B1.out.trans (b2.out.mono B1.out.size))
 clear X1 B1 b2 CD x5
 cases o with
 | none =>
  have R : Hid (v = 4) := Lib.hid V.out
  have RS : Hid (s2 = s) := Lib.hid (by rw [VS.out, if_neg (by rw [R.out]; decide)])
  have W3 : Hid (Below w.heap.size w (w2.alloc (.cells #[.slice A2 0 ca2] 37))) := Lib.hid (B2.out.alloc B2.out.size _)
  clear V VS LM
  dsimp only [Option.getD_none, List.length_nil, Option.isSome_none]
  go_wp2
  go_ret
  rw [RS.out]
  exact ActG.same H.out W3.out R.out.symm
 | some d =>
  dsimp only [Option.getD_some, Option.isSome_some] at d2 VS ⊢
  have DK := Lib.hid (LM.out d rfl)
  have V2 : Hid (v = if ke.size ≠ 0 ∧ Ky.getB (Fw.ks s) na ke = true then 5 else if 64 ≤ s.runs.length then 6 else if ru ≠ s.runs.length + 1 then 1 else 0) := Lib.hid V.out
  clear V LM
  obtain ⟨n, hn⟩ : ∃ n, n = d.length := ⟨_, rfl⟩
  have HN := Lib.hid hn
  rw [← hn]
  clear hn
  obtain ⟨w3, hw3⟩ : ∃ w3, w3 = w2.alloc (.cells #[.slice A2 n ca2] 37) := ⟨_, rfl⟩
  have B23 : Hid (Below w2.heap.size w2 w3) := Lib.hid (by rw [hw3]; exact (Below.refl _ _).alloc (Nat.le_refl _) _)
  have B3 : Hid (Below w.heap.size w w3) := Lib.hid (B2.out.trans (B23.out.mono B2.out.size))
  have Y3 : Hid (w3.cell? ⟨w2.heap.size, 0, none⟩ = some (.slice A2 n ca2)) := Lib.hid (by rw [hw3]; simp)
  have X3 : Hid (w3.heap[w.heap.size]? = some (.cells (evc ⟨kd, ru, ta, tr, nn, na, ke, da⟩) 28 (0, 0))) := Lib.hid ((B23.out.block _ (lt_of_block X2.out)).trans X2.out)
  have D3 : Hid (DefIn w3 w3.heap.size A2 d) := Lib.hid (d2.out.on B23.out)
  clear X2 B2 B23 d2
  have CK := Lib.hid (key_any (H.out.on B3.out) HI.out.ki na ke ⟨HE.out.name, HE.out.key⟩)
  have KN : Hid (Ky.getB (Fw.ks s) na ke = true → ke.size ≠ 0) := Lib.hid fun hb h0 => by
   have e0 : ke = ⟨#[]⟩ := by
    cases ke with | mk x => simp [ByteArray.size] at h0; rw [h0]
   rw [e0, getB_none HI.out na] at hb
   cases hb
  generalize Ky.getV (Fw.ks s) na ke = kv at *
  generalize Ky.getB (Fw.ks s) na ke = kb at *
  obtain ⟨x0, x1, x2, x3, x4, x5, x6, x7⟩ := ev8 X3.out
  clear x0 x1 x2 x3 x4 x7
  dsimp only at x5 x6
  go_upto_region 2 with (fail)
  rw [← hw3]
  clear hw3
  go_wp2_with fail
  refine CK.out.mono ?_; rintro r w4 ⟨rfl, b4⟩
  have X4 : Hid (w4.heap[w.heap.size]? = some (.cells (evc ⟨kd, ru, ta, tr, nn, na, ke, da⟩) 28 (0, 0))) := Lib.hid ((b4.out.block _ (lt_of_block X3.out)).trans X3.out)
  have B4 : Hid (Below w.heap.size w w4) := Lib.hid (B3.out.trans (b4.out.mono B3.out.size))
  have D4 : Hid (DefIn w4 w4.heap.size A2 d) := Lib.hid (D3.out.on b4.out)
  have Y4 : Hid (w4.cell? ⟨w2.heap.size, 0, none⟩ = some (.slice A2 n ca2)) := Lib.hid ((b4.out.cell (block_lt Y3.out)).trans Y3.out)
  clear X3 B3 D3 Y3 b4 CK x5 x6
  obtain ⟨x0, x1, x2, x3, x4, x5, x6, x7⟩ := ev8 X4.out
  clear x0 x2 x3 x4 x7
  dsimp only at x1 x5 x6
  have Y5 := Y4.out
  have H4 := Lib.hid (H.out.on B4.out)
  obtain ⟨⟨-, -, c2, c3, c4⟩, -⟩ := H4.out.cells
  have hm9 := H.out.rm
  obtain ⟨m, hm⟩ : ∃ m, m = s.runs.length := ⟨_, rfl⟩
  have HM := Lib.hid hm
  rw [← hm] at c2 c3 hm9 V2
  clear hm
  cases kb with
  | true =>
   have R : Hid (v = 5) := Lib.hid (by rw [V2.out, if_pos ⟨KN.out rfl, rfl⟩])
   have RS : Hid (s2 = s) := Lib.hid (by rw [VS.out, if_neg (by rw [R.out]; decide)])
   have NE : ke.toList.isEmpty = false := bs_nonempty fun e0 => KN.out rfl (by rw [e0]; rfl)
   clear V2 VS KN Y5 c2 c3 c4
   go_wp2
   go_ret
   rw [RS.out]
   exact ActG.same H.out B4.out R.out.symm
  | false =>
   have V3 : Hid (v = if 64 ≤ m then 6 else if ru ≠ m + 1 then 1 else 0) := Lib.hid (by rw [V2.out, if_neg (fun h => by cases h.2)])
   clear V2 KN
   by_cases hfull : 64 ≤ m
   ·have R : Hid (v = 6) := Lib.hid (by rw [V3.out, if_pos hfull])
    have RS : Hid (s2 = s) := Lib.hid (by rw [VS.out, if_neg (by rw [R.out]; decide)])
    have hf2 : (64 : Int) ≤ (m : Int) := by omega
    clear V3 VS hfull Y5 c3 c4
    go_wp2
    go_ret
    rw [RS.out]
    exact ActG.same H.out B4.out R.out.symm
   ·have hf2 : ¬ (64 : Int) ≤ (m : Int) := by omega
    go_upto_region 9 with (fail)
    by_cases hr : ru = m + 1
    ·have R : Hid (v = 0) := Lib.hid (by rw [V3.out, if_neg hfull, if_neg (fun h => h hr)])
     have RS : Hid (s2 = { s with runs := s.runs ++ [(Rn.newS d, na)], keys := if ke.size = 0 then s.keys else (Ky.putS (Fw.ks s) na ke ru).l }) := Lib.hid (by rw [VS.out, if_pos R.out])
     have RU : Hid (ru = m + 1) := Lib.hid hr
     clear V3 VS
     subst hr
     go_quiet (fail)
     have CN : Hid (∀ W, Below w4.heap.size w4 W → Calls Tryz.prog 60 #[.agg #[.slice A2 n ca2]] W (RunG W (Rn.newS d, 0))) := Lib.hid fun W hW => by
      rw [HN.out]
      have := new_p A2 ca2 d DK.out.fair W ((HF.out.on B4.out).on hW).d (D4.out.on hW)
      have e0 : Rn.newV d = (Rn.newS d, 0) := by unfold Rn.newV; rw [if_pos (Df.good_iff.2 DK.out)]
      rw [e0] at this
      exact this
     have hdr : ∀ W : World, Below w4.heap.size w4 (w4.drewN W.heap.size) := fun W => below_n (Below.refl _ _) _
     clear hdr
     generalize hw5 : w4.drewN nq = w5
     have B45 : Hid (Below w4.heap.size w4 w5) := Lib.hid (by rw [← hw5]; exact below_n (Below.refl _ _) _)
     have Y6 := (B45.out.cell (block_lt Y5)).trans Y5
     clear hw5 c2 c3 c4 x1 x5 x6 Y5
     go_wp2_with fail
     refine (CN.out w5 B45.out).mono ?_; rintro r w6 hN
     obtain ⟨nr, hnr⟩ : ∃ r, r = Rn.newS d := ⟨_, rfl⟩
     have NR := Lib.hid hnr
     rw [← hnr] at hN RS
     clear hnr
     obtain ⟨an, han⟩ : ∃ x, x = nr.d.length := ⟨_, rfl⟩
     obtain ⟨st, hst⟩ : ∃ x, x = nr.st := ⟨_, rfl⟩
     obtain ⟨tn, htn⟩ : ∃ x, x = nr.ts.length := ⟨_, rfl⟩
     obtain ⟨sn, hsn⟩ : ∃ x, x = nr.sg.length := ⟨_, rfl⟩
     obtain ⟨p, rfl, hp, b6⟩ := hN.of rfl han.symm hst.symm htn.symm hsn.symm
     have RV : Hid (rnV p nr = [.slice p.A an p.ca, .int .i64 st, .slice p.T tn p.ct, .slice p.S sn p.cs]) := Lib.hid (by unfold rnV; rw [han, hst, htn, hsn])
     clear hN han hst htn hsn
     obtain ⟨w7, hw7⟩ : ∃ w7, w7 = w6.alloc (.cells #[.slice p.A an p.ca, .int .i64 st, .slice p.T tn p.ct, .slice p.S sn p.cs] 41) := ⟨_, rfl⟩
     have B67 : Hid (Below w6.heap.size w6 w7) := Lib.hid (by rw [hw7]; exact (Below.refl _ _).alloc (Nat.le_refl _) _)
     have Z7 : Hid (w7.heap[w6.heap.size]? = some (.cells #[.slice p.A an p.ca, .int .i64 st, .slice p.T tn p.ct, .slice p.S sn p.cs] 41 (0, 0))) := Lib.hid (by rw [hw7]; exact heap_alloc_new _ _)
     have B47 : Hid (Below w4.heap.size w4 w7) := Lib.hid (B45.out.trans ((b6.out.trans (B67.out.mono b6.out.size)).mono B45.out.size))
     have B7 : Hid (Below w.heap.size w w7) := Lib.hid (B4.out.trans (B47.out.mono B4.out.size))
     have NO : Hid (RunO w7 (fun b => w5.heap.size ≤ b ∧ b < w6.heap.size) p nr) := Lib.hid (hp.out.here.on B67.out)
     have X7 : Hid (w7.heap[w.heap.size]? = some (.cells (evc ⟨kd, m + 1, ta, tr, nn, na, ke, da⟩) 28 (0, 0))) := Lib.hid ((B47.out.block _ (lt_of_block X4.out)).trans X4.out)
     have L6 : Hid (w.heap.size ≤ w5.heap.size ∧ w5.heap.size ≤ w6.heap.size ∧ w6.heap.size < w7.heap.size) := Lib.hid ⟨Nat.le_trans B4.out.size B45.out.size, b6.out.size, lt_of_block Z7.out⟩
     have H7 := Lib.hid (H.out.on B7.out)
     clear CN Y6 b6 B45 B67 hp
     go_upto_region 12 with (fail)
     rw [← hw7]
     clear hw7
     have HG : Hid (g < w.heap.size) := Lib.hid (lt_of_block H.out.obj)
     have HX : Hid (w.heap.size < w7.heap.size) := Lib.hid (lt_of_block X7.out)
     have C7 : Hid (nwC w7 g w.heap.size w6.heap.size a m na p an st tn sn) := Lib.hid (by
      obtain ⟨⟨-, -, c2, c3, -⟩, -⟩ := H7.out.cells
      obtain ⟨⟨z0, z1, z2, z3⟩, -⟩ := obj4 Z7.out
      have x5 := (ev8 X7.out).2.2.2.2.2.1
      rw [← HM.out] at c2 c3
      exact ⟨c2, c3, x5, z0, z1, z2, z3⟩)
     have KA : Hid (∀ W, Below w7.heap.size w7 W → Kp3 w7 W g w.heap.size w6.heap.size) := Lib.hid fun W hW => Kp3.of hW (by have := HG.out; have := HX.out; omega) HX.out L6.out.2.2
     have KR : Hid (∀ W W2, Below w7.heap.size w7 W → W.grownBy W2 (Value.slice a.R (rsV s.runs a.f).length a.cr).ownBlock → Kp3 W W2 g w.heap.size w6.heap.size) := Lib.hid fun W W2 hW hg => Kp3.grown hg
      ⟨by have := HG.out; have := HX.out; have := hW.size; omega, H.out.apart.r⟩ ⟨Nat.lt_of_lt_of_le HX.out hW.size, fun hr => by have := H.out.runs.ltB hr; omega⟩ ⟨Nat.lt_of_lt_of_le L6.out.2.2 hW.size, fun hr => by have := H.out.runs.ltB hr; have := L6.out; omega⟩
     have S7 : Hid (∀ W, Kp3 w7 W g w.heap.size w6.heap.size → nwC W g w.heap.size w6.heap.size a m na p an st tn sn) := Lib.hid fun W k => C7.out.kept k
     have LR : Hid ((rsV s.runs a.f).length = m) := Lib.hid (by rw [rsV_len, HM.out])
     have LO : Hid ((s.runs.map ofV).length = m) := Lib.hid (by rw [List.length_map, HM.out])
     have undRR : Tryz.prog.underlying 54 = some (.slice 41) := Tryz.underlying54
     have undSS : Tryz.prog.underlying 39 = some (.slice 9) := Tryz.underlying39
     have UR := Lib.hid undRR
     have US := Lib.hid undSS
     clear undRR undSS
     have FA : Hid (∀ W, Below w7.heap.size w7 W → FPM W g a s) := Lib.hid fun W hW => H7.out.on hW
     have hm64 : m < 64 := by omega
     have BG : Hid (∀ W u5 u6 u7 A8 c8 A9 c9, Below w7.heap.size w7 W → OwnK u5 0 41 4 A8 c8 (rsV s.runs a.f ++ [rnV p nr]) → W.grownBy u5 (Value.slice a.R (rsV s.runs a.f).length a.cr).ownBlock → (∀ x, A8 = some x → (∃ a0, a.R = some a0 ∧ x.block = a0.block) ∨ x.block = W.heap.size) →
       Below u5.heap.size u5 u6 → OwnK u7 0 9 1 A9 c9 (s.runs.map ofV ++ [[.string na]]) → u6.grownBy u7 (Value.slice a.F (s.runs.map ofV).length a.cf).ownBlock → (∀ x, A9 = some x → (∃ a0, a.F = some a0 ∧ x.block = a0.block) ∨ x.block = u6.heap.size) →
       ∃ a8, FPM ((u7.setCell ⟨g, 2, none⟩ (.slice A8 (m + 1) c8)).setCell ⟨g, 3, none⟩ (.slice A9 (m + 1) c9)) g a8 { s with runs := s.runs ++ [(nr, na)] } ∧ StepM g a a8 w ((u7.setCell ⟨g, 2, none⟩ (.slice A8 (m + 1) c8)).setCell ⟨g, 3, none⟩ (.slice A9 (m + 1) c9)) ∧
        ((u7.setCell ⟨g, 2, none⟩ (.slice A8 (m + 1) c8)).setCell ⟨g, 3, none⟩ (.slice A9 (m + 1) c9)).heap[w.heap.size]? = some (.cells (evc ⟨kd, m + 1, ta, tr, nn, na, ke, da⟩) 28 (0, 0))) := Lib.hid fun W u5 u6 u7 A8 c8 A9 c9 hW o8 g8 l8 b6 o9 g9 l9 => by
      obtain ⟨p8, q8, r8⟩ := (FA.out W hW).pushRun (N := fun b => w5.heap.size ≤ b ∧ b < w6.heap.size) (NO.out.on hW) (fun i hi => ⟨by have := L6.out; have := hW.size; omega, fun hm => by have := H.out.lt i (.inl hm); have := L6.out; omega⟩) o8 g8 l8 b6 o9 g9 l9 (by rw [← HM.out]; exact hm64)
      rw [← HM.out] at p8 q8
      have hww := B7.out.trans (hW.mono B7.out.size)
      have h0 := StepM.of (g := g) (a := a) hww
      refine ⟨_, p8, ⟨h0.only.trans q8 fun i hi => .inl hi, fun k hk => ?_, fun k hk => ?_⟩, ?_⟩
      ·rcases r8 k hk with h1 | h1
       ·exact .inl h1
       ·exact .inr (Nat.le_trans hww.size h1)
      ·rcases hk with hk | hk
       ·exact .inl hk
       ·exact .inr (Nat.le_trans L6.out.1 hk.1)
      ·exact (q8.block _ (Nat.lt_of_lt_of_le HX.out hW.size) fun hm => by have := H.out.lt _ (.inl hm); omega).trans ((hW.block _ HX.out).trans X7.out)
     refine wp_region_C (fun w' => nwC w' g w.heap.size w6.heap.size a m na p an st tn sn) 19 (by kernel_rfl) ?_
     have hS0 : (fun w' : World => nwC w' g w.heap.size w6.heap.size a m na p an st tn sn) w7.drew := S7.out _ (KA.out _ (Below.refl _ w7).drew)
     unfold nwC
     refine takC 0 (h := ?_)
     try simp only [Act.put, List.setIfInBounds_toArray, List.set_cons_zero, List.set_cons_succ]
     refine takC 2 (h := ?_)
     try simp only [Act.put, List.setIfInBounds_toArray, List.set_cons_zero, List.set_cons_succ]
     refine takC 3 (h := ?_)
     try simp only [Act.put, List.setIfInBounds_toArray, List.set_cons_zero, List.set_cons_succ]
     refine takC 4 (h := ?_)
     try simp only [Act.put, List.setIfInBounds_toArray, List.set_cons_zero, List.set_cons_succ]
     refine takC 5 (h := ?_)
     try simp only [Act.put, List.setIfInBounds_toArray, List.set_cons_zero, List.set_cons_succ]
     refine takC 6 (h := ?_)
     try simp only [Act.put, List.setIfInBounds_toArray, List.set_cons_zero, List.set_cons_succ]
     refine takA 1 (h := ?_)
     try simp only [Act.put, List.setIfInBounds_toArray, List.set_cons_zero, List.set_cons_succ]
     refine takP [16, 12, 11, 10] 9 (h := ?_)
     try simp only [Act.put, List.setIfInBounds_toArray, List.set_cons_zero, List.set_cons_succ]
     refine takP [16, 12, 11] 10 (h := ?_)
     try simp only [Act.put, List.setIfInBounds_toArray, List.set_cons_zero, List.set_cons_succ]
     refine takP [16, 12] 11 (h := ?_)
     try simp only [Act.put, List.setIfInBounds_toArray, List.set_cons_zero, List.set_cons_succ]
     refine takC 12 (h := ?_)
     try simp only [Act.put, List.setIfInBounds_toArray, List.set_cons_zero, List.set_cons_succ]
     refine takP [16, 15, 14] 13 (h := ?_)
     try simp only [Act.put, List.setIfInBounds_toArray, List.set_cons_zero, List.set_cons_succ]
     refine takP [16, 15] 14 (h := ?_)
     try simp only [Act.put, List.setIfInBounds_toArray, List.set_cons_zero, List.set_cons_succ]
     have OKK : Hid (Ky.ok na ke ((m : Int) + 1)) := Lib.hid ⟨⟨HE.out.name, HE.out.key⟩, by omega, by omega⟩
     have GW0 : Hid (Below w7.heap.size w7 w7.drew) := Lib.hid (Below.refl _ _).drew
     refine wpAnyC_two (i := 7) (j := 15) (oi := ?o1) (oj := ?p1) ?hi1 ?hj1 (by kernel_rfl) ?step1 ?more1
     case hi1 => (simp only [List.getElem?_toArray, List.getElem?_cons_zero, List.getElem?_cons_succ]; exact rfl)
     case hj1 => (simp only [List.getElem?_toArray, List.getElem?_cons_zero, List.getElem?_cons_succ]; exact rfl)
     ·skip
      intro K' hK
      go_simp
      refine hK.out _ _ ?_ (fun hHeld => ?_)
      ·exact fun _ => S7.out _ (KA.out _ ((GW0.out).alloc GW0.out.size _))
      clear hK K' hHeld
      try simp only [Act.put, List.setIfInBounds_toArray, List.set_cons_zero, List.set_cons_succ]
      obtain ⟨u1, hu1⟩ : ∃ u1, u1 = (w7.alloc (.cells #[.slice p.A an p.ca, .int .i64 st, .slice p.T tn p.ct, .slice p.S sn p.cs] 41)).drew := ⟨_, rfl⟩
      have L1 : Hid (u1.heap[w7.heap.size]? = some (.cells #[.slice p.A an p.ca, .int .i64 st, .slice p.T tn p.ct, .slice p.S sn p.cs] 41 (0, 0))) := Lib.hid (by rw [hu1]; exact heap_alloc_new _ _)
      have BB1 : Hid (Below w7.heap.size w7 u1) := Lib.hid (by rw [hu1]; exact ((Below.refl _ _).alloc (Nat.le_refl _) _).drew)
      rw [← hu1]
      clear hu1
      have GW1 := BB1
      refine wpAnyC_two (i := 8) (j := 15) (oi := ?o2) (oj := ?p2) ?hi2 ?hj2 (by kernel_rfl) ?step2 ?more2
      case hi2 => (simp only [List.getElem?_toArray, List.getElem?_cons_zero, List.getElem?_cons_succ]; exact rfl)
      case hj2 => (simp only [List.getElem?_toArray, List.getElem?_cons_zero, List.getElem?_cons_succ]; exact rfl)
      ·skip
       intro K' hK
       refine step_appK' _ _ (by rfl) (vs := rsV s.runs a.f) (us := [rnV p nr]) UR.out infoRn rfl (by decide) (by decide) (by rfl) LR.out.symm (FA.out _ GW1.out).runs (Nat.zero_le _) (by rfl) (by rfl) (fun v hv => by rw [List.mem_singleton.1 hv]; exact rnV_wide p nr) (by rw [RV.out]; exact fun j x hu => lit_at L1.out hu) (by rw [LR.out]; show m + 1 ≤ _; omega) (r := m + 1) (by rw [LR.out]; rfl) ?_; intro A8 c8 u2 o8 g8 l8; have O8 := Lib.hid o8; have G8 := Lib.hid g8; have M8 := Lib.hid l8; have KW2 : Hid (Kp3 w7 u2 g w.heap.size w6.heap.size) := Lib.hid ((KA.out _ GW1.out).trans (KR.out _ _ GW1.out g8)); have SZ2 : Hid (w7.heap.size ≤ u2.heap.size) := Lib.hid (Nat.le_trans GW1.out.size g8.size); clear o8 g8 l8
       refine hK.out _ _ ?_ (fun hHeld => ?_)
       ·exact fun _ => S7.out _ KW2.out
       clear hK K' hHeld
       try simp only [Act.put, List.setIfInBounds_toArray, List.set_cons_zero, List.set_cons_succ]
       have GB := GW1
       have OF0 := Lib.hid ((FA.out _ GW1.out).ofKept G8.out)
       refine wpAnyC_one (i := 15) (oi := ?o3) ?hi3 (by kernel_rfl) ?step3
       case hi3 => (simp only [List.getElem?_toArray, List.getElem?_cons_zero, List.getElem?_cons_succ]; exact rfl)
       intro K' hK
       go_simp
       refine hK.out _ _ ?_ (fun hHeld => ?_)
       ·exact fun _ => S7.out _ (KW2.out.trans (Kp3.of ((Below.refl _ u2).alloc (Nat.le_refl _) _) (by have := SZ2.out; have := HG.out; have := HX.out; omega) (by have := SZ2.out; have := HX.out; omega) (by have := SZ2.out; have := L6.out; omega)))
       clear hK K' hHeld
       try simp only [Act.put, List.setIfInBounds_toArray, List.set_cons_zero, List.set_cons_succ]
       obtain ⟨u3, hu3⟩ : ∃ u3, u3 = (u2).alloc (.cells #[.string na] 9) := ⟨_, rfl⟩
       have L2 : Hid (u3.heap[(u2).heap.size]? = some (.cells #[.string na] 9 (0, 0))) := Lib.hid (by rw [hu3]; exact heap_alloc_new _ _)
       have BB3 : Hid (Below (u2).heap.size (u2) u3) := Lib.hid (by rw [hu3]; exact (Below.refl _ _).alloc (Nat.le_refl _) _)
       rw [← hu3]
       clear hu3
       have KW3 : Hid (Kp3 w7 u3 g w.heap.size w6.heap.size) := Lib.hid (KW2.out.trans (Kp3.of BB3.out (by have := SZ2.out; have := HG.out; have := HX.out; omega) (by have := SZ2.out; have := HX.out; omega) (by have := SZ2.out; have := L6.out; omega)))
       have SZ3 : Hid (w7.heap.size ≤ u3.heap.size) := Lib.hid (Nat.le_trans SZ2.out BB3.out.size)
       have B6 := BB3
       have OF := Lib.hid (OF0.out.grew B6.out (Nat.le_refl _))
       refine wpAnyC_one (i := 16) (oi := ?o4) ?hi4 (by kernel_rfl) ?step4
       case hi4 => (simp only [List.getElem?_toArray, List.getElem?_cons_zero, List.getElem?_cons_succ]; exact rfl)
       intro K' hK
       refine step_appK' _ _ (by rfl) (vs := s.runs.map ofV) (us := [[.string na]]) US.out infoS rfl (by decide) (by decide) (by rfl) LO.out.symm OF.out (Nat.zero_le _) (by rfl) (by rfl) (ofV_wide [(nr, na)]) (fun j x hu => lit_at L2.out hu) (by rw [LO.out]; show m + 1 ≤ _; omega) (r := m + 1) (by rw [LO.out]; rfl) ?_; intro A9 c9 u4 o9 g9 l9; have BD := Lib.hid (BG.out _ _ _ _ A8 c8 A9 c9 GB.out O8.out G8.out M8.out B6.out o9 g9 l9); have KW4 : Hid (Kp3 w7 u4 g w.heap.size w6.heap.size) := Lib.hid (KW3.out.trans (Kp3.grown g9 ⟨by have := SZ3.out; have := HG.out; have := HX.out; omega, H.out.apart.f⟩ ⟨by have := SZ3.out; have := HX.out; omega, fun hr => by have := H.out.of.ltB hr; omega⟩ ⟨by have := SZ3.out; have := L6.out; omega, fun hr => by have := H.out.of.ltB hr; have := L6.out; omega⟩)); clear o9 g9 l9
       refine hK.out _ _ ?_ (fun hHeld => ?_)
       ·exact fun _ => S7.out _ KW4.out
       clear hK K' hHeld
       try simp only [Act.put, List.setIfInBounds_toArray, List.set_cons_zero, List.set_cons_succ]
       have E4 : Hid (∃ y, u4.heap[g]? = some (.cells (flC a s) y (0, 0))) := Lib.hid ⟨_, KW4.out.g.trans H7.out.obj⟩
       obtain ⟨yt, e4⟩ := E4.out
       have e5 := heap_setCell_same _ g 2 _ _ (.slice A8 (m + 1) c8) e4
       obtain ⟨⟨y0, y1, y2, y3, y4⟩, f0, f1, f2, f3, f4⟩ := obF e4
       clear y0 y1 y3 y4 f0 f1 f3 f4
       refine wpAnyC_one (i := 17) (oi := ?o5) ?hi5 (by kernel_rfl) ?step5
       case hi5 => (simp only [List.getElem?_toArray, List.getElem?_cons_zero, List.getElem?_cons_succ]; exact rfl)
       intro K' hK
       go_simp
       refine hK.out _ _ ?_ (fun hHeld => ?_)
       ·exact fun _ => S7.out _ KW4.out
       clear hK K' hHeld
       try simp only [Act.put, List.setIfInBounds_toArray, List.set_cons_zero, List.set_cons_succ]
       refine wpAnyC_one (i := 18) (oi := ?o6) ?hi6 (by kernel_rfl) ?step6
       case hi6 => (simp only [List.getElem?_toArray, List.getElem?_cons_zero, List.getElem?_cons_succ]; exact rfl)
       intro K' hK
       go_simp
       refine hK.out _ _ ?_ (fun hHeld => ?_)
       ·exact fun _ => S7.out _ KW4.out
       clear hK K' hHeld
       try simp only [Act.put, List.setIfInBounds_toArray, List.set_cons_zero, List.set_cons_succ]
       refine wpAnyC_one (i := 19) (oi := ?o7) ?hi7 (by kernel_rfl) ?step7
       case hi7 => (simp only [List.getElem?_toArray, List.getElem?_cons_zero, List.getElem?_cons_succ]; exact rfl)
       intro K' hK
       go_simp
       refine hK.out _ _ ?_ (fun hHeld => ?_)
       ·exact fun h => (by cases h)
       clear hK K' hHeld
       try simp only [Act.put, List.setIfInBounds_toArray, List.set_cons_zero, List.set_cons_succ]
       clear y2 f2 e4
       obtain ⟨⟨y0, y1, y2, y3, y4⟩, f0, f1, f2, f3, f4⟩ := obF e5
       clear y0 y1 y2 y4 f0 f1 f2 f4 e5
       refine wpAnyC_one (i := 20) (oi := ?o8) ?hi8 (by kernel_rfl) ?step8
       case hi8 => (simp only [List.getElem?_toArray, List.getElem?_cons_zero, List.getElem?_cons_succ]; exact rfl)
       intro K' hK
       go_simp
       refine hK.out _ _ ?_ (fun hHeld => ?_)
       ·exact fun h => (by cases h)
       clear hK K' hHeld
       try simp only [Act.put, List.setIfInBounds_toArray, List.set_cons_zero, List.set_cons_succ]
       refine wpAnyC_one (i := 21) (oi := ?o9) ?hi9 (by kernel_rfl) ?step9
       case hi9 => (simp only [List.getElem?_toArray, List.getElem?_cons_zero, List.getElem?_cons_succ]; exact rfl)
       intro K' hK
       go_simp
       refine hK.out _ _ ?_ (fun hHeld => ?_)
       ·exact fun h => (by cases h)
       clear hK K' hHeld
       try simp only [Act.put, List.setIfInBounds_toArray, List.set_cons_zero, List.set_cons_succ]
       refine wpAnyC_one (i := 22) (oi := ?o10) ?hi10 (by kernel_rfl) ?step10
       case hi10 => (simp only [List.getElem?_toArray, List.getElem?_cons_zero, List.getElem?_cons_succ]; exact rfl)
       intro K' hK
       go_simp
       refine hK.out _ _ ?_ (fun hHeld => ?_)
       ·exact fun h => (by cases h)
       clear hK K' hHeld
       try simp only [Act.put, List.setIfInBounds_toArray, List.set_cons_zero, List.set_cons_succ]
       clear y3 f3
       refine wpAnyC_done (by kernel_rfl) ?_ _
       have BE := BD.out
       generalize ((u4).setCell ⟨g, 2, none⟩ (.slice A8 (m + 1) c8)).setCell ⟨g, 3, none⟩ (.slice A9 (m + 1) c9) = w8 at BE ⊢
       clear BD
       obtain ⟨a8, p8, q8, x8⟩ := BE
       have P8 := Lib.hid p8
       have Q8 := Lib.hid q8
       have X8 := Lib.hid x8
       obtain ⟨x0, x1, x2, x3, x4, x5, x6, x7⟩ := ev8 x8
       clear x0 x2 x3 x4 x7 p8 q8 x8
       dsimp only at x1 x5 x6
       by_cases hke : ke = { data := #[] }
       ·have RS2 : Hid (s2 = { s with runs := s.runs ++ [(nr, na)] }) := Lib.hid (by rw [RS.out, if_pos (by rw [hke]; rfl)])
        clear RS x1 x5
        rw [hke] at x6
        clear hke
        go_wp2
        go_ret
        rw [RS2.out]
        exact ⟨by rw [R.out]; rfl, Lib.hid ⟨a8, P8.out, Q8.out⟩⟩
       ·have NE : ke.toList.isEmpty = false := bs_nonempty hke
        have RS2 : Hid (s2 = { s with runs := s.runs ++ [(nr, na)], keys := (Ky.putS (Fw.ks s) na ke (m + 1)).l }) := Lib.hid (by rw [RS.out, if_neg (fun h0 => hke (by cases ke with | mk x => simp [ByteArray.size] at h0; rw [h0]))])
        have P9 := Lib.hid P8.out.drew
        have CU := Lib.hid (keysPut_any a8.k a8.K (Fw.ks s) na ke (m + 1) w8.drew P9.out.keys HI.out.ki OKK.out)
        obtain ⟨⟨-, -, -, -, c4⟩, -⟩ := P8.out.cells
        have XW : Hid (w.heap.size < w8.heap.size ∧ ¬ a8.K w.heap.size ∧ ¬ a8.K g) := Lib.hid ⟨lt_of_block X8.out, fun hk => P8.out.keys.neT hk X8.out (by decide) (by decide) rfl, P8.out.apart.k⟩
        have SK : Hid (∀ O2 W, Step a8.K O2 w8.drew W → W.cell? ⟨g, 4, none⟩ = some (.pointer (some ⟨a8.k, 0, none⟩)) ∧ W.cell? ⟨w.heap.size, 5, none⟩ = some (.string na) ∧ W.cell? ⟨w.heap.size, 6, none⟩ = some (.string ke) ∧ W.cell? ⟨w.heap.size, 1, none⟩ = some (.int .i64 (m + 1))) := Lib.hid fun O2 W st => by
         have k1 := st.only.block w.heap.size XW.out.1 XW.out.2.1
         have k2 := st.only.block g (lt_of_block P8.out.obj) XW.out.2.2
         exact ⟨(World.cell?_of_block (w := w8) k2).trans c4, (World.cell?_of_block (w := w8) k1).trans x5, (World.cell?_of_block (w := w8) k1).trans x6, (World.cell?_of_block (w := w8) k1).trans x1⟩
        clear hke RS
        go_upto_region 14 with (fail)
        go_region_held3 (fun w' => w'.cell? ⟨g, 4, none⟩ = some (.pointer (some ⟨a8.k, 0, none⟩)) ∧ w'.cell? ⟨w.heap.size, 5, none⟩ = some (.string na) ∧ w'.cell? ⟨w.heap.size, 6, none⟩ = some (.string ke) ∧ w'.cell? ⟨w.heap.size, 1, none⟩ = some (.int .i64 (m + 1))) (first | (exact SK.out _ _ ST.out) | go_keep)
         (((with_reducible refine CU.out.mono ?_); rintro r w9 ⟨rfl, O2, k9, st9⟩; have K9 := Lib.hid k9; have ST := Lib.hid st9; clear k9 st9))
        clear x1 x5 x6 c4 CU NE
        obtain ⟨p10, q10⟩ := P9.out.putKey (n := na) (k := ke) (id := m + 1) K9.out ST.out
        have P10 := Lib.hid p10
        have Q10 := Lib.hid q10
        clear p10 q10
        go_wp2
        go_ret
        rw [RS2.out]
        exact ⟨by rw [R.out]; rfl, Lib.hid ⟨_, P10.out, Q8.out.drew.trans Q10.out⟩⟩
      ·skip
       intro K' hK
       go_simp
       refine hK.out _ _ ?_ (fun hHeld => ?_)
       ·exact fun _ => S7.out _ (KA.out _ ((GW1.out).alloc GW1.out.size _))
       clear hK K' hHeld
       try simp only [Act.put, List.setIfInBounds_toArray, List.set_cons_zero, List.set_cons_succ]
       obtain ⟨u2, hu2⟩ : ∃ u2, u2 = (u1).alloc (.cells #[.string na] 9) := ⟨_, rfl⟩
       have L2 : Hid (u2.heap[(u1).heap.size]? = some (.cells #[.string na] 9 (0, 0))) := Lib.hid (by rw [hu2]; exact heap_alloc_new _ _)
       have BB2 : Hid (Below (u1).heap.size (u1) u2) := Lib.hid (by rw [hu2]; exact (Below.refl _ _).alloc (Nat.le_refl _) _)
       rw [← hu2]
       clear hu2
       have GW2 : Hid (Below w7.heap.size w7 u2) := Lib.hid (GW1.out.trans (BB2.out.mono GW1.out.size))
       replace L1 := Lib.hid ((BB2.out.block _ (lt_of_block L1.out)).trans L1.out)
       have HL2 : Hid (w.heap.size ≤ (u1).heap.size) := Lib.hid (Nat.le_trans B7.out.size GW1.out.size)
       refine wpAnyC_one (i := 8) (oi := ?o11) ?hi11 (by kernel_rfl) ?step11
       case hi11 => (simp only [List.getElem?_toArray, List.getElem?_cons_zero, List.getElem?_cons_succ]; exact rfl)
       intro K' hK
       refine step_appK' _ _ (by rfl) (vs := rsV s.runs a.f) (us := [rnV p nr]) UR.out infoRn rfl (by decide) (by decide) (by rfl) LR.out.symm (FA.out _ GW2.out).runs (Nat.zero_le _) (by rfl) (by rfl) (fun v hv => by rw [List.mem_singleton.1 hv]; exact rnV_wide p nr) (by rw [RV.out]; exact fun j x hu => lit_at L1.out hu) (by rw [LR.out]; show m + 1 ≤ _; omega) (r := m + 1) (by rw [LR.out]; rfl) ?_; intro A8 c8 u3 o8 g8 l8; have O8 := Lib.hid o8; have G8 := Lib.hid g8; have M8 := Lib.hid l8; have KW3 : Hid (Kp3 w7 u3 g w.heap.size w6.heap.size) := Lib.hid ((KA.out _ GW2.out).trans (KR.out _ _ GW2.out g8)); have SZ3 : Hid (w7.heap.size ≤ u3.heap.size) := Lib.hid (Nat.le_trans GW2.out.size g8.size); clear o8 g8 l8
       refine hK.out _ _ ?_ (fun hHeld => ?_)
       ·exact fun _ => S7.out _ KW3.out
       clear hK K' hHeld
       try simp only [Act.put, List.setIfInBounds_toArray, List.set_cons_zero, List.set_cons_succ]
       have GB := GW2
       have OF0 := Lib.hid ((FA.out _ GW2.out).ofKept G8.out)
       have B6 : Hid (Below u3.heap.size u3 u3) := Lib.hid (Below.refl _ _)
       have OF := OF0
       replace L2 : Hid (u3.heap[_]? = _) := Lib.hid ((grown_keep G8.out _ (lt_of_block L2.out) fun hr => by have := H.out.runs.ltB hr; have := HL2.out; omega).trans L2.out)
       refine wpAnyC_one (i := 16) (oi := ?o12) ?hi12 (by kernel_rfl) ?step12
       case hi12 => (simp only [List.getElem?_toArray, List.getElem?_cons_zero, List.getElem?_cons_succ]; exact rfl)
       intro K' hK
       refine step_appK' _ _ (by rfl) (vs := s.runs.map ofV) (us := [[.string na]]) US.out infoS rfl (by decide) (by decide) (by rfl) LO.out.symm OF.out (Nat.zero_le _) (by rfl) (by rfl) (ofV_wide [(nr, na)]) (fun j x hu => lit_at L2.out hu) (by rw [LO.out]; show m + 1 ≤ _; omega) (r := m + 1) (by rw [LO.out]; rfl) ?_; intro A9 c9 u4 o9 g9 l9; have BD := Lib.hid (BG.out _ _ _ _ A8 c8 A9 c9 GB.out O8.out G8.out M8.out B6.out o9 g9 l9); have KW4 : Hid (Kp3 w7 u4 g w.heap.size w6.heap.size) := Lib.hid (KW3.out.trans (Kp3.grown g9 ⟨by have := SZ3.out; have := HG.out; have := HX.out; omega, H.out.apart.f⟩ ⟨by have := SZ3.out; have := HX.out; omega, fun hr => by have := H.out.of.ltB hr; omega⟩ ⟨by have := SZ3.out; have := L6.out; omega, fun hr => by have := H.out.of.ltB hr; have := L6.out; omega⟩)); clear o9 g9 l9
       refine hK.out _ _ ?_ (fun hHeld => ?_)
       ·exact fun _ => S7.out _ KW4.out
       clear hK K' hHeld
       try simp only [Act.put, List.setIfInBounds_toArray, List.set_cons_zero, List.set_cons_succ]
       have E4 : Hid (∃ y, u4.heap[g]? = some (.cells (flC a s) y (0, 0))) := Lib.hid ⟨_, KW4.out.g.trans H7.out.obj⟩
       obtain ⟨yt, e4⟩ := E4.out
       have e5 := heap_setCell_same _ g 2 _ _ (.slice A8 (m + 1) c8) e4
       obtain ⟨⟨y0, y1, y2, y3, y4⟩, f0, f1, f2, f3, f4⟩ := obF e4
       clear y0 y1 y3 y4 f0 f1 f3 f4
       refine wpAnyC_one (i := 17) (oi := ?o13) ?hi13 (by kernel_rfl) ?step13
       case hi13 => (simp only [List.getElem?_toArray, List.getElem?_cons_zero, List.getElem?_cons_succ]; exact rfl)
       intro K' hK
       go_simp
       refine hK.out _ _ ?_ (fun hHeld => ?_)
       ·exact fun _ => S7.out _ KW4.out
       clear hK K' hHeld
       try simp only [Act.put, List.setIfInBounds_toArray, List.set_cons_zero, List.set_cons_succ]
       refine wpAnyC_one (i := 18) (oi := ?o14) ?hi14 (by kernel_rfl) ?step14
       case hi14 => (simp only [List.getElem?_toArray, List.getElem?_cons_zero, List.getElem?_cons_succ]; exact rfl)
       intro K' hK
       go_simp
       refine hK.out _ _ ?_ (fun hHeld => ?_)
       ·exact fun _ => S7.out _ KW4.out
       clear hK K' hHeld
       try simp only [Act.put, List.setIfInBounds_toArray, List.set_cons_zero, List.set_cons_succ]
       refine wpAnyC_one (i := 19) (oi := ?o15) ?hi15 (by kernel_rfl) ?step15
       case hi15 => (simp only [List.getElem?_toArray, List.getElem?_cons_zero, List.getElem?_cons_succ]; exact rfl)
       intro K' hK
       go_simp
       refine hK.out _ _ ?_ (fun hHeld => ?_)
       ·exact fun h => (by cases h)
       clear hK K' hHeld
       try simp only [Act.put, List.setIfInBounds_toArray, List.set_cons_zero, List.set_cons_succ]
       clear y2 f2 e4
       obtain ⟨⟨y0, y1, y2, y3, y4⟩, f0, f1, f2, f3, f4⟩ := obF e5
       clear y0 y1 y2 y4 f0 f1 f2 f4 e5
       refine wpAnyC_one (i := 20) (oi := ?o16) ?hi16 (by kernel_rfl) ?step16
       case hi16 => (simp only [List.getElem?_toArray, List.getElem?_cons_zero, List.getElem?_cons_succ]; exact rfl)
       intro K' hK
       go_simp
       refine hK.out _ _ ?_ (fun hHeld => ?_)
       ·exact fun h => (by cases h)
       clear hK K' hHeld
       try simp only [Act.put, List.setIfInBounds_toArray, List.set_cons_zero, List.set_cons_succ]
       refine wpAnyC_one (i := 21) (oi := ?o17) ?hi17 (by kernel_rfl) ?step17
       case hi17 => (simp only [List.getElem?_toArray, List.getElem?_cons_zero, List.getElem?_cons_succ]; exact rfl)
       intro K' hK
       go_simp
       refine hK.out _ _ ?_ (fun hHeld => ?_)
       ·exact fun h => (by cases h)
       clear hK K' hHeld
       try simp only [Act.put, List.setIfInBounds_toArray, List.set_cons_zero, List.set_cons_succ]
       refine wpAnyC_one (i := 22) (oi := ?o18) ?hi18 (by kernel_rfl) ?step18
       case hi18 => (simp only [List.getElem?_toArray, List.getElem?_cons_zero, List.getElem?_cons_succ]; exact rfl)
       intro K' hK
       go_simp
       refine hK.out _ _ ?_ (fun hHeld => ?_)
       ·exact fun h => (by cases h)
       clear hK K' hHeld
       try simp only [Act.put, List.setIfInBounds_toArray, List.set_cons_zero, List.set_cons_succ]
       clear y3 f3
       refine wpAnyC_done (by kernel_rfl) ?_ _
       have BE := BD.out
       generalize ((u4).setCell ⟨g, 2, none⟩ (.slice A8 (m + 1) c8)).setCell ⟨g, 3, none⟩ (.slice A9 (m + 1) c9) = w8 at BE ⊢
       clear BD
       obtain ⟨a8, p8, q8, x8⟩ := BE
       have P8 := Lib.hid p8
       have Q8 := Lib.hid q8
       have X8 := Lib.hid x8
       obtain ⟨x0, x1, x2, x3, x4, x5, x6, x7⟩ := ev8 x8
       clear x0 x2 x3 x4 x7 p8 q8 x8
       dsimp only at x1 x5 x6
       by_cases hke : ke = { data := #[] }
       ·have RS2 : Hid (s2 = { s with runs := s.runs ++ [(nr, na)] }) := Lib.hid (by rw [RS.out, if_pos (by rw [hke]; rfl)])
        clear RS x1 x5
        rw [hke] at x6
        clear hke
        go_wp2
        go_ret
        rw [RS2.out]
        exact ⟨by rw [R.out]; rfl, Lib.hid ⟨a8, P8.out, Q8.out⟩⟩
       ·have NE : ke.toList.isEmpty = false := bs_nonempty hke
        have RS2 : Hid (s2 = { s with runs := s.runs ++ [(nr, na)], keys := (Ky.putS (Fw.ks s) na ke (m + 1)).l }) := Lib.hid (by rw [RS.out, if_neg (fun h0 => hke (by cases ke with | mk x => simp [ByteArray.size] at h0; rw [h0]))])
        have P9 := Lib.hid P8.out.drew
        have CU := Lib.hid (keysPut_any a8.k a8.K (Fw.ks s) na ke (m + 1) w8.drew P9.out.keys HI.out.ki OKK.out)
        obtain ⟨⟨-, -, -, -, c4⟩, -⟩ := P8.out.cells
        have XW : Hid (w.heap.size < w8.heap.size ∧ ¬ a8.K w.heap.size ∧ ¬ a8.K g) := Lib.hid ⟨lt_of_block X8.out, fun hk => P8.out.keys.neT hk X8.out (by decide) (by decide) rfl, P8.out.apart.k⟩
        have SK : Hid (∀ O2 W, Step a8.K O2 w8.drew W → W.cell? ⟨g, 4, none⟩ = some (.pointer (some ⟨a8.k, 0, none⟩)) ∧ W.cell? ⟨w.heap.size, 5, none⟩ = some (.string na) ∧ W.cell? ⟨w.heap.size, 6, none⟩ = some (.string ke) ∧ W.cell? ⟨w.heap.size, 1, none⟩ = some (.int .i64 (m + 1))) := Lib.hid fun O2 W st => by
         have k1 := st.only.block w.heap.size XW.out.1 XW.out.2.1
         have k2 := st.only.block g (lt_of_block P8.out.obj) XW.out.2.2
         exact ⟨(World.cell?_of_block (w := w8) k2).trans c4, (World.cell?_of_block (w := w8) k1).trans x5, (World.cell?_of_block (w := w8) k1).trans x6, (World.cell?_of_block (w := w8) k1).trans x1⟩
        clear hke RS
        go_upto_region 14 with (fail)
        go_region_held3 (fun w' => w'.cell? ⟨g, 4, none⟩ = some (.pointer (some ⟨a8.k, 0, none⟩)) ∧ w'.cell? ⟨w.heap.size, 5, none⟩ = some (.string na) ∧ w'.cell? ⟨w.heap.size, 6, none⟩ = some (.string ke) ∧ w'.cell? ⟨w.heap.size, 1, none⟩ = some (.int .i64 (m + 1))) (first | (exact SK.out _ _ ST.out) | go_keep)
         (((with_reducible refine CU.out.mono ?_); rintro r w9 ⟨rfl, O2, k9, st9⟩; have K9 := Lib.hid k9; have ST := Lib.hid st9; clear k9 st9))
        clear x1 x5 x6 c4 CU NE
        obtain ⟨p10, q10⟩ := P9.out.putKey (n := na) (k := ke) (id := m + 1) K9.out ST.out
        have P10 := Lib.hid p10
        have Q10 := Lib.hid q10
        clear p10 q10
        go_wp2
        go_ret
        rw [RS2.out]
        exact ⟨by rw [R.out]; rfl, Lib.hid ⟨_, P10.out, Q8.out.drew.trans Q10.out⟩⟩
     ·skip
      intro K' hK
      go_simp
      refine hK.out _ _ ?_ (fun hHeld => ?_)
      ·exact fun _ => S7.out _ (KA.out _ ((GW0.out).alloc GW0.out.size _))
      clear hK K' hHeld
      try simp only [Act.put, List.setIfInBounds_toArray, List.set_cons_zero, List.set_cons_succ]
      obtain ⟨u1, hu1⟩ : ∃ u1, u1 = (w7.alloc (.cells #[.string na] 9)).drew := ⟨_, rfl⟩
      have L2 : Hid (u1.heap[w7.heap.size]? = some (.cells #[.string na] 9 (0, 0))) := Lib.hid (by rw [hu1]; exact heap_alloc_new _ _)
      have BB1 : Hid (Below w7.heap.size w7 u1) := Lib.hid (by rw [hu1]; exact ((Below.refl _ _).alloc (Nat.le_refl _) _).drew)
      rw [← hu1]
      clear hu1
      have GW1 := BB1
      have HL2 : Hid (w.heap.size ≤ w7.heap.size) := Lib.hid (Nat.le_trans B7.out.size GW0.out.size)
      refine wpAnyC_one (i := 7) (oi := ?o19) ?hi19 (by kernel_rfl) ?step19
      case hi19 => (simp only [List.getElem?_toArray, List.getElem?_cons_zero, List.getElem?_cons_succ]; exact rfl)
      intro K' hK
      go_simp
      refine hK.out _ _ ?_ (fun hHeld => ?_)
      ·exact fun _ => S7.out _ (KA.out _ ((GW1.out).alloc GW1.out.size _))
      clear hK K' hHeld
      try simp only [Act.put, List.setIfInBounds_toArray, List.set_cons_zero, List.set_cons_succ]
      obtain ⟨u2, hu2⟩ : ∃ u2, u2 = (u1).alloc (.cells #[.slice p.A an p.ca, .int .i64 st, .slice p.T tn p.ct, .slice p.S sn p.cs] 41) := ⟨_, rfl⟩
      have L1 : Hid (u2.heap[(u1).heap.size]? = some (.cells #[.slice p.A an p.ca, .int .i64 st, .slice p.T tn p.ct, .slice p.S sn p.cs] 41 (0, 0))) := Lib.hid (by rw [hu2]; exact heap_alloc_new _ _)
      have BB2 : Hid (Below (u1).heap.size (u1) u2) := Lib.hid (by rw [hu2]; exact (Below.refl _ _).alloc (Nat.le_refl _) _)
      rw [← hu2]
      clear hu2
      have GW2 : Hid (Below w7.heap.size w7 u2) := Lib.hid (GW1.out.trans (BB2.out.mono GW1.out.size))
      replace L2 := Lib.hid ((BB2.out.block _ (lt_of_block L2.out)).trans L2.out)
      refine wpAnyC_one (i := 8) (oi := ?o20) ?hi20 (by kernel_rfl) ?step20
      case hi20 => (simp only [List.getElem?_toArray, List.getElem?_cons_zero, List.getElem?_cons_succ]; exact rfl)
      intro K' hK
      refine step_appK' _ _ (by rfl) (vs := rsV s.runs a.f) (us := [rnV p nr]) UR.out infoRn rfl (by decide) (by decide) (by rfl) LR.out.symm (FA.out _ GW2.out).runs (Nat.zero_le _) (by rfl) (by rfl) (fun v hv => by rw [List.mem_singleton.1 hv]; exact rnV_wide p nr) (by rw [RV.out]; exact fun j x hu => lit_at L1.out hu) (by rw [LR.out]; show m + 1 ≤ _; omega) (r := m + 1) (by rw [LR.out]; rfl) ?_; intro A8 c8 u3 o8 g8 l8; have O8 := Lib.hid o8; have G8 := Lib.hid g8; have M8 := Lib.hid l8; have KW3 : Hid (Kp3 w7 u3 g w.heap.size w6.heap.size) := Lib.hid ((KA.out _ GW2.out).trans (KR.out _ _ GW2.out g8)); have SZ3 : Hid (w7.heap.size ≤ u3.heap.size) := Lib.hid (Nat.le_trans GW2.out.size g8.size); clear o8 g8 l8
      refine hK.out _ _ ?_ (fun hHeld => ?_)
      ·exact fun _ => S7.out _ KW3.out
      clear hK K' hHeld
      try simp only [Act.put, List.setIfInBounds_toArray, List.set_cons_zero, List.set_cons_succ]
      have GB := GW2
      have OF0 := Lib.hid ((FA.out _ GW2.out).ofKept G8.out)
      have B6 : Hid (Below u3.heap.size u3 u3) := Lib.hid (Below.refl _ _)
      have OF := OF0
      replace L2 : Hid (u3.heap[_]? = _) := Lib.hid ((grown_keep G8.out _ (lt_of_block L2.out) fun hr => by have := H.out.runs.ltB hr; have := HL2.out; omega).trans L2.out)
      refine wpAnyC_one (i := 16) (oi := ?o21) ?hi21 (by kernel_rfl) ?step21
      case hi21 => (simp only [List.getElem?_toArray, List.getElem?_cons_zero, List.getElem?_cons_succ]; exact rfl)
      intro K' hK
      refine step_appK' _ _ (by rfl) (vs := s.runs.map ofV) (us := [[.string na]]) US.out infoS rfl (by decide) (by decide) (by rfl) LO.out.symm OF.out (Nat.zero_le _) (by rfl) (by rfl) (ofV_wide [(nr, na)]) (fun j x hu => lit_at L2.out hu) (by rw [LO.out]; show m + 1 ≤ _; omega) (r := m + 1) (by rw [LO.out]; rfl) ?_; intro A9 c9 u4 o9 g9 l9; have BD := Lib.hid (BG.out _ _ _ _ A8 c8 A9 c9 GB.out O8.out G8.out M8.out B6.out o9 g9 l9); have KW4 : Hid (Kp3 w7 u4 g w.heap.size w6.heap.size) := Lib.hid (KW3.out.trans (Kp3.grown g9 ⟨by have := SZ3.out; have := HG.out; have := HX.out; omega, H.out.apart.f⟩ ⟨by have := SZ3.out; have := HX.out; omega, fun hr => by have := H.out.of.ltB hr; omega⟩ ⟨by have := SZ3.out; have := L6.out; omega, fun hr => by have := H.out.of.ltB hr; have := L6.out; omega⟩)); clear o9 g9 l9
      refine hK.out _ _ ?_ (fun hHeld => ?_)
      ·exact fun _ => S7.out _ KW4.out
      clear hK K' hHeld
      try simp only [Act.put, List.setIfInBounds_toArray, List.set_cons_zero, List.set_cons_succ]
      have E4 : Hid (∃ y, u4.heap[g]? = some (.cells (flC a s) y (0, 0))) := Lib.hid ⟨_, KW4.out.g.trans H7.out.obj⟩
      obtain ⟨yt, e4⟩ := E4.out
      have e5 := heap_setCell_same _ g 2 _ _ (.slice A8 (m + 1) c8) e4
      obtain ⟨⟨y0, y1, y2, y3, y4⟩, f0, f1, f2, f3, f4⟩ := obF e4
      clear y0 y1 y3 y4 f0 f1 f3 f4
      refine wpAnyC_one (i := 17) (oi := ?o22) ?hi22 (by kernel_rfl) ?step22
      case hi22 => (simp only [List.getElem?_toArray, List.getElem?_cons_zero, List.getElem?_cons_succ]; exact rfl)
      intro K' hK
      go_simp
      refine hK.out _ _ ?_ (fun hHeld => ?_)
      ·exact fun _ => S7.out _ KW4.out
      clear hK K' hHeld
      try simp only [Act.put, List.setIfInBounds_toArray, List.set_cons_zero, List.set_cons_succ]
      refine wpAnyC_one (i := 18) (oi := ?o23) ?hi23 (by kernel_rfl) ?step23
      case hi23 => (simp only [List.getElem?_toArray, List.getElem?_cons_zero, List.getElem?_cons_succ]; exact rfl)
      intro K' hK
      go_simp
      refine hK.out _ _ ?_ (fun hHeld => ?_)
      ·exact fun _ => S7.out _ KW4.out
      clear hK K' hHeld
      try simp only [Act.put, List.setIfInBounds_toArray, List.set_cons_zero, List.set_cons_succ]
      refine wpAnyC_one (i := 19) (oi := ?o24) ?hi24 (by kernel_rfl) ?step24
      case hi24 => (simp only [List.getElem?_toArray, List.getElem?_cons_zero, List.getElem?_cons_succ]; exact rfl)
      intro K' hK
      go_simp
      refine hK.out _ _ ?_ (fun hHeld => ?_)
      ·exact fun h => (by cases h)
      clear hK K' hHeld
      try simp only [Act.put, List.setIfInBounds_toArray, List.set_cons_zero, List.set_cons_succ]
      clear y2 f2 e4
      obtain ⟨⟨y0, y1, y2, y3, y4⟩, f0, f1, f2, f3, f4⟩ := obF e5
      clear y0 y1 y2 y4 f0 f1 f2 f4 e5
      refine wpAnyC_one (i := 20) (oi := ?o25) ?hi25 (by kernel_rfl) ?step25
      case hi25 => (simp only [List.getElem?_toArray, List.getElem?_cons_zero, List.getElem?_cons_succ]; exact rfl)
      intro K' hK
      go_simp
      refine hK.out _ _ ?_ (fun hHeld => ?_)
      ·exact fun h => (by cases h)
      clear hK K' hHeld
      try simp only [Act.put, List.setIfInBounds_toArray, List.set_cons_zero, List.set_cons_succ]
      refine wpAnyC_one (i := 21) (oi := ?o26) ?hi26 (by kernel_rfl) ?step26
      case hi26 => (simp only [List.getElem?_toArray, List.getElem?_cons_zero, List.getElem?_cons_succ]; exact rfl)
      intro K' hK
      go_simp
      refine hK.out _ _ ?_ (fun hHeld => ?_)
      ·exact fun h => (by cases h)
      clear hK K' hHeld
      try simp only [Act.put, List.setIfInBounds_toArray, List.set_cons_zero, List.set_cons_succ]
      refine wpAnyC_one (i := 22) (oi := ?o27) ?hi27 (by kernel_rfl) ?step27
      case hi27 => (simp only [List.getElem?_toArray, List.getElem?_cons_zero, List.getElem?_cons_succ]; exact rfl)
      intro K' hK
      go_simp
      refine hK.out _ _ ?_ (fun hHeld => ?_)
      ·exact fun h => (by cases h)
      clear hK K' hHeld
      try simp only [Act.put, List.setIfInBounds_toArray, List.set_cons_zero, List.set_cons_succ]
      clear y3 f3
      refine wpAnyC_done (by kernel_rfl) ?_ _
      have BE := BD.out
      generalize ((u4).setCell ⟨g, 2, none⟩ (.slice A8 (m + 1) c8)).setCell ⟨g, 3, none⟩ (.slice A9 (m + 1) c9) = w8 at BE ⊢
      clear BD
      obtain ⟨a8, p8, q8, x8⟩ := BE
      have P8 := Lib.hid p8
      have Q8 := Lib.hid q8
      have X8 := Lib.hid x8
      obtain ⟨x0, x1, x2, x3, x4, x5, x6, x7⟩ := ev8 x8
      clear x0 x2 x3 x4 x7 p8 q8 x8
      dsimp only at x1 x5 x6
      by_cases hke : ke = { data := #[] }
      ·have RS2 : Hid (s2 = { s with runs := s.runs ++ [(nr, na)] }) := Lib.hid (by rw [RS.out, if_pos (by rw [hke]; rfl)])
       clear RS x1 x5
       rw [hke] at x6
       clear hke
       go_wp2
       go_ret
       rw [RS2.out]
       exact ⟨by rw [R.out]; rfl, Lib.hid ⟨a8, P8.out, Q8.out⟩⟩
      ·have NE : ke.toList.isEmpty = false := bs_nonempty hke
       have RS2 : Hid (s2 = { s with runs := s.runs ++ [(nr, na)], keys := (Ky.putS (Fw.ks s) na ke (m + 1)).l }) := Lib.hid (by rw [RS.out, if_neg (fun h0 => hke (by cases ke with | mk x => simp [ByteArray.size] at h0; rw [h0]))])
       have P9 := Lib.hid P8.out.drew
       have CU := Lib.hid (keysPut_any a8.k a8.K (Fw.ks s) na ke (m + 1) w8.drew P9.out.keys HI.out.ki OKK.out)
       obtain ⟨⟨-, -, -, -, c4⟩, -⟩ := P8.out.cells
       have XW : Hid (w.heap.size < w8.heap.size ∧ ¬ a8.K w.heap.size ∧ ¬ a8.K g) := Lib.hid ⟨lt_of_block X8.out, fun hk => P8.out.keys.neT hk X8.out (by decide) (by decide) rfl, P8.out.apart.k⟩
       have SK : Hid (∀ O2 W, Step a8.K O2 w8.drew W → W.cell? ⟨g, 4, none⟩ = some (.pointer (some ⟨a8.k, 0, none⟩)) ∧ W.cell? ⟨w.heap.size, 5, none⟩ = some (.string na) ∧ W.cell? ⟨w.heap.size, 6, none⟩ = some (.string ke) ∧ W.cell? ⟨w.heap.size, 1, none⟩ = some (.int .i64 (m + 1))) := Lib.hid fun O2 W st => by
        have k1 := st.only.block w.heap.size XW.out.1 XW.out.2.1
        have k2 := st.only.block g (lt_of_block P8.out.obj) XW.out.2.2
        exact ⟨(World.cell?_of_block (w := w8) k2).trans c4, (World.cell?_of_block (w := w8) k1).trans x5, (World.cell?_of_block (w := w8) k1).trans x6, (World.cell?_of_block (w := w8) k1).trans x1⟩
       clear hke RS
       go_upto_region 14 with (fail)
       go_region_held3 (fun w' => w'.cell? ⟨g, 4, none⟩ = some (.pointer (some ⟨a8.k, 0, none⟩)) ∧ w'.cell? ⟨w.heap.size, 5, none⟩ = some (.string na) ∧ w'.cell? ⟨w.heap.size, 6, none⟩ = some (.string ke) ∧ w'.cell? ⟨w.heap.size, 1, none⟩ = some (.int .i64 (m + 1))) (first | (exact SK.out _ _ ST.out) | go_keep)
        (((with_reducible refine CU.out.mono ?_); rintro r w9 ⟨rfl, O2, k9, st9⟩; have K9 := Lib.hid k9; have ST := Lib.hid st9; clear k9 st9))
       clear x1 x5 x6 c4 CU NE
       obtain ⟨p10, q10⟩ := P9.out.putKey (n := na) (k := ke) (id := m + 1) K9.out ST.out
       have P10 := Lib.hid p10
       have Q10 := Lib.hid q10
       clear p10 q10
       go_wp2
       go_ret
       rw [RS2.out]
       exact ⟨by rw [R.out]; rfl, Lib.hid ⟨_, P10.out, Q8.out.drew.trans Q10.out⟩⟩
    ·have R : Hid (v = 1) := Lib.hid (by rw [V3.out, if_neg hfull, if_pos hr])
     have RS : Hid (s2 = s) := Lib.hid (by rw [VS.out, if_neg (by rw [R.out]; decide)])
     have hr2 : (ru != (m : Int) + 1) = true := by simpa using hr
     clear V3 VS hr
     go_quiet (fail)
     go_wp2
     go_ret
     rw [RS.out]
     exact ActG.same H.out (below_n B4.out _) R.out.symm
end Go.Proofs.YtkbekojnmdgdgaaGreatDoor
/- FlChanged -/
namespace Go.Proofs.YtkbekojnmdgdgaaGreatDoor
open Go.RowKit Go.Maps
set_option maxRecDepth 20000
structure ChW (w W : World) (p : At3) (r : Rn.R) (e : Ev.E) : Prop where
 r : W.heap[w.heap.size]? = some (.cells #[.slice p.A r.d.length p.ca, .int .i64 r.st, .slice p.T r.ts.length p.ct, .slice p.S r.sg.length p.cs] 41 (0, 0))
 e : W.heap[w.heap.size + 1]? = some (.cells (evc e) 28 (0, 0))
 z : W.heap[w.heap.size + 1 + 1]? = some (.cells #[.slice none 0 0, .int .i64 0, .slice none 0 0, .slice none 0 0] 41 (0, 0))
 b : Below w.heap.size w W
 s : W.heap.size = w.heap.size + 1 + 1 + 1
theorem ChW.of (w : World) (p : At3) (r : Rn.R) (e : Ev.E) : ChW w (((w.alloc (.cells #[.slice p.A r.d.length p.ca, .int .i64 r.st, .slice p.T r.ts.length p.ct, .slice p.S r.sg.length p.cs] 41)).alloc (.cells (evc e) 28)).alloc (.cells #[.slice none 0 0, .int .i64 0, .slice none 0 0, .slice none 0 0] 41)) p r e where
 r := by rw [Below.heap_alloc _ _ _ (by simp; omega), Below.heap_alloc _ _ _ (by simp)]; exact heap_alloc_new _ _
 e := by rw [Below.heap_alloc _ _ _ (by simp)]; rw [show w.heap.size + 1 = (w.alloc (.cells #[.slice p.A r.d.length p.ca, .int .i64 r.st, .slice p.T r.ts.length p.ct, .slice p.S r.sg.length p.cs] 41)).heap.size by simp]; exact heap_alloc_new _ _
 z := by rw [show w.heap.size + 1 + 1 = ((w.alloc (.cells #[.slice p.A r.d.length p.ca, .int .i64 r.st, .slice p.T r.ts.length p.ct, .slice p.S r.sg.length p.cs] 41)).alloc (.cells (evc e) 28)).heap.size by simp]; exact heap_alloc_new _ _
 b := (((Below.refl _ _).alloc (Nat.le_refl _) _).alloc (by simp) _).alloc (by simp; omega) _
 s := by simp
theorem ChW.fin {w W W4 : World} {p q : At3} {r : Rn.R} {e : Ev.E} (h : ChW w W p r e) {v : Rn.R × Int} {n m k : Nat} {st x : Int} (hn : n = v.1.d.length) (hs : st = v.1.st) (hm : m = v.1.ts.length) (hk : k = v.1.sg.length) (hx : x = v.2) (ho : RunO W4 (since W) q v.1) (hb : Below W.heap.size W W4) :
  RunG w v (.returned (.tuple #[.agg #[.slice q.A n q.ca, .int .i64 st, .slice q.T m q.ct, .slice q.S k q.cs], .int .i64 x])) (S4 W4 (w.heap.size + 1 + 1) (.slice q.A n q.ca) (.int .i64 st) (.slice q.T m q.ct) (.slice q.S k q.cs)) := by
 subst hn hs hm hk hx
 have hs := h.s
 refine ⟨q, rfl, Lib.hid ((ho.keep (Nat.le_of_eq (S4.size_ _ _ _ _ _ _).symm) fun b hb _ => S4.else_ _ _ _ _ _ _ (by unfold since at hb; omega)).imp fun b _ hb => ?_), Lib.hid (S4.below (h.b.trans (hb.mono h.b.size)) (by omega) _ _ _ _)⟩
 unfold since at hb ⊢
 omega
set_option maxHeartbeats 2000000 in
theorem changed_any (p : At3) (r : Rn.R) (hI : Rn.Inv r) (w : World) (O : Nat → Prop) (h : RunO w O p r) (e : Ev.E) (he : EvIn e) (hn : e.name.size ≤ 140737488355328) (hd : e.data.size ≤ 140737488355328) (c : Int) (c0 : 0 ≤ c) (c1 : c ≤ Rn.tickMax) :
  Calls Tryz.prog 62 #[rv p r, .agg (evc e), .int .i64 c] w (RunG w (Fw.act c e r)) := by
 obtain ⟨w3, hw3⟩ : ∃ w3, w3 = ((w.alloc (.cells #[.slice p.A r.d.length p.ca, .int .i64 r.st, .slice p.T r.ts.length p.ct, .slice p.S r.sg.length p.cs] 41)).alloc (.cells (evc e) 28)).alloc (.cells #[.slice none 0 0, .int .i64 0, .slice none 0 0, .slice none 0 0] 41) := ⟨_, rfl⟩
 have C := Lib.hid (ChW.of w p r e)
 rw [← hw3] at C
 have R3 := Lib.hid (h.on C.out.b)
 have HE := Lib.hid he
 obtain ⟨kd, ru, ta, tr, nn, na, ke, da⟩ := e
 have V : Hid (Fw.act c ⟨kd, ru, ta, tr, nn, na, ke, da⟩ r = if kd = 3 then Rn.leaseV r ta tr c else if kd = 4 then Rn.doneV r ta tr da.data.toList else if kd = 5 then Rn.failV r ta tr c else if kd = 7 then Rn.sigV r na.data.toList else Rn.cancelV r) := Lib.hid rfl
 generalize Fw.act c ⟨kd, ru, ta, tr, nn, na, ke, da⟩ r = v at *
 have C1 := Lib.hid (lease_p p r hI w3 O R3.out ta tr c ⟨HE.out.task.1, HE.out.task.2⟩ ⟨HE.out.try_.1, HE.out.try_.2⟩ c0 c1)
 have C2 := Lib.hid (done_p p r hI w3 O R3.out ta tr da ⟨HE.out.task.1, HE.out.task.2⟩ ⟨HE.out.try_.1, HE.out.try_.2⟩ hd)
 have C3 := Lib.hid (fail_p p r hI w3 O R3.out ta tr c ⟨HE.out.task.1, HE.out.task.2⟩ ⟨HE.out.try_.1, HE.out.try_.2⟩ c0 c1)
 have C4 := Lib.hid (sig_p p r hI w3 O R3.out na hn)
 have C5 := Lib.hid (cancel_p p r hI w3 O R3.out)
 clear hI h he hn hd c0 c1 R3 HE
 obtain ⟨x0, x1, x2, x3, x4, x5, x6, x7⟩ := ev8 C.out.e
 obtain ⟨⟨y0, y1, y2, y3⟩, -⟩ := obj4 C.out.r
 clear x1 x4 x6
 dsimp only at x0 x2 x3 x5 x7
 unfold rv at *
 unfold evc at hw3 ⊢
 dsimp only at hw3
 generalize r.d.length = an at *
 generalize r.st = st at *
 generalize r.ts.length = tn at *
 generalize r.sg.length = sn at *
 go_enter Tryz.func62, Tryz.ntmps62
 go_upto_region 1 with (fail)
 rw [← hw3]
 clear hw3
 by_cases k3 : kd = 3
 ·subst k3
  have RV : Hid (v = Rn.leaseV r ta tr c) := Lib.hid (by rw [V.out, if_pos rfl])
  have CC := Lib.hid C1.out
  unfold RunG rv at CC
  rw [← RV.out] at CC
  clear C1 C2 C3 C4 C5 V RV
  go_wp2_with fail
  refine CC.out.mono ?_; rintro e W4 ⟨q, rfl, o4, b4⟩
  have Z4 := (b4.out.block _ (lt_of_block C.out.z)).trans C.out.z
  obtain ⟨⟨z0, z1, z2, z3⟩, f0, f1, f2, f3⟩ := obj4 Z4
  obtain ⟨n2, hn2⟩ : ∃ x, x = v.1.d.length := ⟨_, rfl⟩
  obtain ⟨s2, hs2⟩ : ∃ x, x = v.1.st := ⟨_, rfl⟩
  obtain ⟨t2, ht2⟩ : ∃ x, x = v.1.ts.length := ⟨_, rfl⟩
  obtain ⟨g2, hg2⟩ : ∃ x, x = v.1.sg.length := ⟨_, rfl⟩
  obtain ⟨e2, he2⟩ : ∃ x, x = v.2 := ⟨_, rfl⟩
  have F := Lib.hid (C.out.fin hn2 hs2 ht2 hg2 he2 o4.out b4.out)
  have D := S4.at_ Z4 (.slice q.A n2 q.ca) (.int .i64 s2) (.slice q.T t2 q.ct) (.slice q.S g2 q.cs)
  obtain ⟨⟨d0, d1, d2, d3⟩, -⟩ := obj4 D
  rw [← hn2, ← hs2, ← ht2, ← hg2, ← he2]
  clear hn2 hs2 ht2 hg2 he2 Z4 D x0 x2 x3 x5 x7 y0 y1 y2 y3 CC
  go_wp2
  rw [S4.lit]
  exact bodyPost_ret (v := .tuple #[.agg #[.slice q.A n2 q.ca, .int .i64 s2, .slice q.T t2 q.ct, .slice q.S g2 q.cs], .int .i64 e2]) (by simp [results, Tryz.results62, go_sem, d0, d1, d2, d3]) rfl F.out
 have n3 : (kd == 3) = false := by simpa using k3
 by_cases k4 : kd = 4
 ·subst k4
  have RV : Hid (v = Rn.doneV r ta tr da.data.toList) := Lib.hid (by rw [V.out, if_neg (by decide), if_pos rfl])
  have CC := Lib.hid C2.out
  unfold RunG rv at CC
  rw [← RV.out] at CC
  clear C1 C2 C3 C4 C5 V RV
  go_wp2_with fail
  refine CC.out.mono ?_; rintro e W4 ⟨q, rfl, o4, b4⟩
  have Z4 := (b4.out.block _ (lt_of_block C.out.z)).trans C.out.z
  obtain ⟨⟨z0, z1, z2, z3⟩, f0, f1, f2, f3⟩ := obj4 Z4
  obtain ⟨n2, hn2⟩ : ∃ x, x = v.1.d.length := ⟨_, rfl⟩
  obtain ⟨s2, hs2⟩ : ∃ x, x = v.1.st := ⟨_, rfl⟩
  obtain ⟨t2, ht2⟩ : ∃ x, x = v.1.ts.length := ⟨_, rfl⟩
  obtain ⟨g2, hg2⟩ : ∃ x, x = v.1.sg.length := ⟨_, rfl⟩
  obtain ⟨e2, he2⟩ : ∃ x, x = v.2 := ⟨_, rfl⟩
  have F := Lib.hid (C.out.fin hn2 hs2 ht2 hg2 he2 o4.out b4.out)
  have D := S4.at_ Z4 (.slice q.A n2 q.ca) (.int .i64 s2) (.slice q.T t2 q.ct) (.slice q.S g2 q.cs)
  obtain ⟨⟨d0, d1, d2, d3⟩, -⟩ := obj4 D
  rw [← hn2, ← hs2, ← ht2, ← hg2, ← he2]
  clear hn2 hs2 ht2 hg2 he2 Z4 D x0 x2 x3 x5 x7 y0 y1 y2 y3 CC
  go_wp2
  rw [S4.lit]
  exact bodyPost_ret (v := .tuple #[.agg #[.slice q.A n2 q.ca, .int .i64 s2, .slice q.T t2 q.ct, .slice q.S g2 q.cs], .int .i64 e2]) (by simp [results, Tryz.results62, go_sem, d0, d1, d2, d3]) rfl F.out
 have n4 : (kd == 4) = false := by simpa using k4
 by_cases k5 : kd = 5
 ·subst k5
  have RV : Hid (v = Rn.failV r ta tr c) := Lib.hid (by rw [V.out, if_neg (by decide), if_neg (by decide), if_pos rfl])
  have CC := Lib.hid C3.out
  unfold RunG rv at CC
  rw [← RV.out] at CC
  clear C1 C2 C3 C4 C5 V RV
  go_wp2_with fail
  refine CC.out.mono ?_; rintro e W4 ⟨q, rfl, o4, b4⟩
  have Z4 := (b4.out.block _ (lt_of_block C.out.z)).trans C.out.z
  obtain ⟨⟨z0, z1, z2, z3⟩, f0, f1, f2, f3⟩ := obj4 Z4
  obtain ⟨n2, hn2⟩ : ∃ x, x = v.1.d.length := ⟨_, rfl⟩
  obtain ⟨s2, hs2⟩ : ∃ x, x = v.1.st := ⟨_, rfl⟩
  obtain ⟨t2, ht2⟩ : ∃ x, x = v.1.ts.length := ⟨_, rfl⟩
  obtain ⟨g2, hg2⟩ : ∃ x, x = v.1.sg.length := ⟨_, rfl⟩
  obtain ⟨e2, he2⟩ : ∃ x, x = v.2 := ⟨_, rfl⟩
  have F := Lib.hid (C.out.fin hn2 hs2 ht2 hg2 he2 o4.out b4.out)
  have D := S4.at_ Z4 (.slice q.A n2 q.ca) (.int .i64 s2) (.slice q.T t2 q.ct) (.slice q.S g2 q.cs)
  obtain ⟨⟨d0, d1, d2, d3⟩, -⟩ := obj4 D
  rw [← hn2, ← hs2, ← ht2, ← hg2, ← he2]
  clear hn2 hs2 ht2 hg2 he2 Z4 D x0 x2 x3 x5 x7 y0 y1 y2 y3 CC
  go_wp2
  rw [S4.lit]
  exact bodyPost_ret (v := .tuple #[.agg #[.slice q.A n2 q.ca, .int .i64 s2, .slice q.T t2 q.ct, .slice q.S g2 q.cs], .int .i64 e2]) (by simp [results, Tryz.results62, go_sem, d0, d1, d2, d3]) rfl F.out
 have n5 : (kd == 5) = false := by simpa using k5
 by_cases k7 : kd = 7
 ·subst k7
  have RV : Hid (v = Rn.sigV r na.data.toList) := Lib.hid (by rw [V.out, if_neg (by decide), if_neg (by decide), if_neg (by decide), if_pos rfl])
  have CC := Lib.hid C4.out
  unfold RunG rv at CC
  rw [← RV.out] at CC
  clear C1 C2 C3 C4 C5 V RV
  go_wp2_with fail
  refine CC.out.mono ?_; rintro e W4 ⟨q, rfl, o4, b4⟩
  have Z4 := (b4.out.block _ (lt_of_block C.out.z)).trans C.out.z
  obtain ⟨⟨z0, z1, z2, z3⟩, f0, f1, f2, f3⟩ := obj4 Z4
  obtain ⟨n2, hn2⟩ : ∃ x, x = v.1.d.length := ⟨_, rfl⟩
  obtain ⟨s2, hs2⟩ : ∃ x, x = v.1.st := ⟨_, rfl⟩
  obtain ⟨t2, ht2⟩ : ∃ x, x = v.1.ts.length := ⟨_, rfl⟩
  obtain ⟨g2, hg2⟩ : ∃ x, x = v.1.sg.length := ⟨_, rfl⟩
  obtain ⟨e2, he2⟩ : ∃ x, x = v.2 := ⟨_, rfl⟩
  have F := Lib.hid (C.out.fin hn2 hs2 ht2 hg2 he2 o4.out b4.out)
  have D := S4.at_ Z4 (.slice q.A n2 q.ca) (.int .i64 s2) (.slice q.T t2 q.ct) (.slice q.S g2 q.cs)
  obtain ⟨⟨d0, d1, d2, d3⟩, -⟩ := obj4 D
  rw [← hn2, ← hs2, ← ht2, ← hg2, ← he2]
  clear hn2 hs2 ht2 hg2 he2 Z4 D x0 x2 x3 x5 x7 y0 y1 y2 y3 CC
  go_wp2
  rw [S4.lit]
  exact bodyPost_ret (v := .tuple #[.agg #[.slice q.A n2 q.ca, .int .i64 s2, .slice q.T t2 q.ct, .slice q.S g2 q.cs], .int .i64 e2]) (by simp [results, Tryz.results62, go_sem, d0, d1, d2, d3]) rfl F.out
 have n7 : (kd == 7) = false := by simpa using k7
 have RV : Hid (v = Rn.cancelV r) := Lib.hid (by rw [V.out, if_neg k3, if_neg k4, if_neg k5, if_neg k7])
 have CC := Lib.hid C5.out
 unfold RunG rv at CC
 rw [← RV.out] at CC
 clear C1 C2 C3 C4 C5 V RV
 go_wp2_with fail
 refine CC.out.mono ?_; rintro e W4 ⟨q, rfl, o4, b4⟩
 have Z4 := (b4.out.block _ (lt_of_block C.out.z)).trans C.out.z
 obtain ⟨⟨z0, z1, z2, z3⟩, f0, f1, f2, f3⟩ := obj4 Z4
 obtain ⟨n2, hn2⟩ : ∃ x, x = v.1.d.length := ⟨_, rfl⟩
 obtain ⟨s2, hs2⟩ : ∃ x, x = v.1.st := ⟨_, rfl⟩
 obtain ⟨t2, ht2⟩ : ∃ x, x = v.1.ts.length := ⟨_, rfl⟩
 obtain ⟨g2, hg2⟩ : ∃ x, x = v.1.sg.length := ⟨_, rfl⟩
 obtain ⟨e2, he2⟩ : ∃ x, x = v.2 := ⟨_, rfl⟩
 have F := Lib.hid (C.out.fin hn2 hs2 ht2 hg2 he2 o4.out b4.out)
 have D := S4.at_ Z4 (.slice q.A n2 q.ca) (.int .i64 s2) (.slice q.T t2 q.ct) (.slice q.S g2 q.cs)
 obtain ⟨⟨d0, d1, d2, d3⟩, -⟩ := obj4 D
 rw [← hn2, ← hs2, ← ht2, ← hg2, ← he2]
 clear hn2 hs2 ht2 hg2 he2 Z4 D x0 x2 x3 x5 x7 y0 y1 y2 y3 CC
 go_wp2
 rw [S4.lit]
 exact bodyPost_ret (v := .tuple #[.agg #[.slice q.A n2 q.ca, .int .i64 s2, .slice q.T t2 q.ct, .slice q.S g2 q.cs], .int .i64 e2]) (by simp [results, Tryz.results62, go_sem, d0, d1, d2, d3]) rfl F.out
end Go.Proofs.YtkbekojnmdgdgaaGreatDoor
