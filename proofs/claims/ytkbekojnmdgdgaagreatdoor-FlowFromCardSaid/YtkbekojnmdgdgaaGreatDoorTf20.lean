/-
  Part 20 of the texts behind the law: TRnCopied, TFlCopy.
-/
import Derived.Test.YtkbekojnmdgdgaaGreatDoorTf5
import Derived.Test.YtkbekojnmdgdgaaGreatDoorTf9
import Derived.Test.YtkbekojnmdgdgaaGreatDoorTf2
import Derived.Deep.Cut
import Derived.BigQuiet
/- RnCopied -/
namespace Go.Proofs.YtkbekojnmdgdgaaGreatDoor
open Go.RowKit
set_option maxRecDepth 20000
def inI_all (zs : List Int) : Prop := ∀ i, i < zs.length → inI (zs.getD i 0)
theorem dV_cells {w : World} {base g cap : Nat} {T : TypeId} {d : Df.D} {f : Nat → Option Addr × Nat} (h : OwnK w base T 6 (some ⟨g, 0, none⟩) cap (dV d f)) {k : Nat} (hk : k < d.length) :
  w.cell? ⟨g, k * 6, none⟩ = some (.string (str (d.getD k tz).name)) ∧ w.cell? ⟨g, k * 6 + 1, none⟩ = some (.slice (f k).1 (d.getD k tz).after.length (f k).2) ∧ w.cell? ⟨g, k * 6 + 2, none⟩ = some (.int .i64 (d.getD k tz).retry) ∧
   w.cell? ⟨g, k * 6 + 3, none⟩ = some (.int .i64 (d.getD k tz).wait) ∧ w.cell? ⟨g, k * 6 + 4, none⟩ = some (.int .i64 (d.getD k tz).base) ∧ w.cell? ⟨g, k * 6 + 5, none⟩ = some (.string (str (d.getD k tz).on)) := by
 have key : ∀ (j : Nat) (u : Value), j < 6 → (taskV (d.getD k tz) (f k))[j]? = some u → w.cell? ⟨g, k * 6 + j, none⟩ = some u := fun j u hj hu =>
  h.cell (by rw [dV_len]; exact hk) hj (by rw [dV_at hk]; exact hu)
 exact ⟨key 0 _ (by decide) rfl, key 1 _ (by decide) rfl, key 2 _ (by decide) rfl, key 3 _ (by decide) rfl, key 4 _ (by decide) rfl, key 5 _ (by decide) rfl⟩
structure Bd (r : Rn.R) : Prop where
 d : r.d.length ≤ 1100
 a : ∀ t ∈ r.d, t.after.length ≤ 1100
 t : r.ts.length ≤ 1100
 s : r.sg.length ≤ 1100
 z : ∀ x ∈ r.sg, x.length ≤ 1100
theorem box0' (w : World) (X Y : Obj) : ((w.alloc X).alloc Y).heap[w.heap.size]? = some X := by rw [Below.heap_alloc _ _ _ (by simp)]; exact heap_alloc_new w X
structure RunW (w : World) (O : Nat → Prop) (p : At3) (r : Rn.R) : Prop where
 d : DefO w O p.A r.d
 t : TksO w O p.T r.ts
 s : SigsO w O p.S r.sg
set_option maxHeartbeats 4000000 in
theorem copied_w (p : At3) (r : Rn.R) (hB : Bd r) (w : World) (O : Nat → Prop) (h : RunW w O p r) :
  Calls Tryz.prog 78 #[rv p r] w fun e w' => ∃ q, e = .returned (rv q r) ∧ Hid (Own3 w' w.heap.size q r) ∧ Hid (Below w.heap.size w w') := by
 obtain ⟨fn, hs0, hf0⟩ := h.d.src
 have NI := Lib.hid h.d.1
 have SD := Lib.hid hs0
 have F0 := Lib.hid hf0
 have ST := Lib.hid h.t.src
 have SS := Lib.hid h.s.src
 have TI := Lib.hid h.t.1
 have BD := Lib.hid hB
 obtain ⟨n, hn⟩ : ∃ n, n = r.d.length := ⟨_, rfl⟩
 obtain ⟨m, hm⟩ : ∃ m, m = r.ts.length := ⟨_, rfl⟩
 obtain ⟨l, hl⟩ : ∃ l, l = r.sg.length := ⟨_, rfl⟩
 have HN := Lib.hid hn
 have HM := Lib.hid hm
 have HL := Lib.hid hl
 have hn9 : n ≤ 1100 := by rw [hn]; exact hB.d
 unfold rv
 rw [← hn, ← hm, ← hl]
 clear h hs0 hf0 hB hn hm hl
 have CD : Hid (∀ W, Below w.heap.size w W → Calls Tryz.prog 63 #[.slice p.A n p.ca] W (RowK W 96 6 n (dV r.d fn))) :=
  Lib.hid fun W hW => cloneD p.A _ (dV_wide _ _) (by rw [dV_len]; have := BD.out.d; omega) n (by rw [dV_len]; exact HN.out) p.ca W (SD.out.below hW)
 have CT : Hid (∀ W, Below w.heap.size w W → Calls Tryz.prog 65 #[.slice p.T m p.ct] W (RowK W 47 4 m (r.ts.map tkV))) :=
  Lib.hid fun W hW => cloneT p.T _ (tkV_wide _) (by rw [List.length_map]; have := BD.out.t; omega) m (by rw [List.length_map]; exact HM.out) p.ct W (ST.out.below hW)
 have CS : Hid (∀ W, Below w.heap.size w W → Calls Tryz.prog 38 #[.slice p.S l p.cs] W (RowK W 9 1 l (r.sg.map sgV))) :=
  Lib.hid fun W hW => cloneS p.S _ (sgV_wide _) (by rw [List.length_map]; have := BD.out.s; omega) l (by rw [List.length_map]; exact HL.out) p.cs W (SS.out.below hW)
 obtain ⟨W1, hW1⟩ : ∃ W1, W1 = (w.alloc (.cells #[.slice p.A n p.ca, .int .i64 r.st, .slice p.T m p.ct, .slice p.S l p.cs] 41)).alloc (.cells #[.slice none 0 0, .int .i64 0, .slice none 0 0, .slice none 0 0] 41) := ⟨_, rfl⟩
 have B1 : Hid (Below w.heap.size w W1) := Lib.hid (by rw [hW1]; exact ((Below.refl _ _).alloc (Nat.le_refl _) _).alloc (by simp) _)
 have Z1 : Hid (W1.heap.size = w.heap.size + 1 + 1) := Lib.hid (by rw [hW1]; simp)
 have X1 : Hid (W1.heap[w.heap.size]? = some (.cells #[.slice p.A n p.ca, .int .i64 r.st, .slice p.T m p.ct, .slice p.S l p.cs] 41 (0, 0))) := Lib.hid (by rw [hW1]; exact box0 _ _ _)
 have Y1 : Hid (W1.heap[w.heap.size + 1]? = some (.cells #[.slice none 0 0, .int .i64 0, .slice none 0 0, .slice none 0 0] 41 (0, 0))) := Lib.hid (by rw [hW1]; exact box1 _ _ _)
 go_enter Tryz.func78, Tryz.ntmps78
 go_wp2_with fail
 rw [← hW1]
 clear hW1
 (with_reducible refine (CD.out W1 B1.out).mono ?_); rintro e W2 ⟨A1, c1, rfl, ho1, hb1⟩
 have X2 : Hid (W2.heap[w.heap.size]? = some (.cells #[.slice p.A n p.ca, .int .i64 r.st, .slice p.T m p.ct, .slice p.S l p.cs] 41 (0, 0))) := Lib.hid ((hb1.out.block _ (by rw [Z1.out]; omega)).trans X1.out)
 have Y2 : Hid (W2.heap[w.heap.size + 1]? = some (.cells #[.slice none 0 0, .int .i64 0, .slice none 0 0, .slice none 0 0] 41 (0, 0))) := Lib.hid ((hb1.out.block _ (by rw [Z1.out]; omega)).trans Y1.out)
 have Z2 : Hid (w.heap.size + 1 + 1 ≤ W2.heap.size) := Lib.hid (by have := hb1.out.size; rwa [Z1.out] at this)
 have B2 : Hid (Below w.heap.size w W2) := Lib.hid (B1.out.trans (hb1.out.mono (by rw [Z1.out]; omega)))
 obtain ⟨⟨x0, x1, x2, x3⟩, f0, f1, f2, f3⟩ := obj4 X2.out
 obtain ⟨W3, hW3⟩ : ∃ W3, W3 = W2.setCell ⟨w.heap.size, 0, none⟩ (.slice A1 n c1) := ⟨_, rfl⟩
 have X3 : Hid (W3.heap[w.heap.size]? = some (.cells #[.slice A1 n c1, .int .i64 r.st, .slice p.T m p.ct, .slice p.S l p.cs] 41 (0, 0))) := Lib.hid (by rw [hW3]; exact heap_setCell_same _ _ 0 _ _ _ X2.out)
 have K3 : Hid (∀ k, k ≠ w.heap.size → W3.heap[k]? = W2.heap[k]?) := Lib.hid fun k hk => by rw [hW3]; exact Below.heap_setCell _ _ _ _ hk
 have Z3 : Hid (W3.heap.size = W2.heap.size) := Lib.hid (by rw [hW3]; simp [World.setCell])
 have Y3 : Hid (W3.heap[w.heap.size + 1]? = some (.cells #[.slice none 0 0, .int .i64 0, .slice none 0 0, .slice none 0 0] 41 (0, 0))) := Lib.hid ((K3.out _ (by omega)).trans Y2.out)
 have B3 : Hid (Below w.heap.size w W3) := Lib.hid (by rw [hW3]; exact B2.out.setCell (p := ⟨w.heap.size, 0, none⟩) (Nat.le_refl _) _)
 have R3 : Hid (OwnK W3 W1.heap.size 96 6 A1 c1 (dV r.d fn)) := Lib.hid (ho1.out.kept fun b hb _ => K3.out b (by rw [Z1.out] at hb; omega))
 clear X1 Y1 X2 Y2 ho1 hb1 B2 CD
 go_upto_region 2 with (fail)
 rw [← hW3]
 clear hW3 x0 x1 x2 x3 f0 f1 f2 f3
 obtain ⟨⟨x0, x1, x2, x3⟩, -⟩ := obj4 X3.out
 go_wp2_with fail
 go_loopw [15] (fun iv wr => ∃ (k : Nat) (f : Nat → Option Addr × Nat), k ≤ n ∧ iv = .int .i64 k ∧
  Hid (wr.heap[w.heap.size]? = some (.cells #[.slice A1 n c1, .int .i64 r.st, .slice p.T m p.ct, .slice p.S l p.cs] 41 (0, 0))) ∧
  Hid (wr.heap[w.heap.size + 1]? = some (.cells #[.slice none 0 0, .int .i64 0, .slice none 0 0, .slice none 0 0] 41 (0, 0))) ∧
  Hid (OwnK wr W1.heap.size 96 6 A1 c1 (dV r.d f)) ∧ Hid (∀ i, i < k → NumsAt wr (fun b => W3.heap.size ≤ b) r.d f i) ∧ Hid (∀ i, k ≤ i → f i = fn i) ∧
  Hid (Below w.heap.size w wr) ∧ Hid (W3.heap.size ≤ wr.heap.size)) (fun iv _ => n - (intOf iv).toNat)
 case atStart => exact ⟨0, fn, Nat.zero_le _, rfl, X3, Y3, R3, Lib.hid fun i hi => by omega, Lib.hid fun _ _ => rfl, B3, Lib.hid (Nat.le_refl _)⟩
 case round =>
  obtain ⟨k, f, hk, rfl, HX, HY, HO, HF, HE, HB, HZ⟩ := hrel
  clear x0 x1 x2 x3
  obtain ⟨⟨x0, x1, x2, x3⟩, -⟩ := obj4 HX.out
  by_cases hlt : k < n
  ·have hlt' : (k : Int) < (n : Int) := by omega
   have hkd : Hid (k < r.d.length) := Lib.hid (by rw [← HN.out]; exact hlt)
   obtain ⟨g, rfl, hg0, hg1⟩ := HO.out.shape (by rw [dV_len]; have := hkd.out; omega)
   have GW : Hid (g < W3.heap.size) := Lib.hid R3.out.lt.2
   have hk0 := HE.out k (Nat.le_refl k)
   obtain ⟨A2, c2, hq⟩ : ∃ A2 c2, fn k = (A2, c2) := ⟨_, _, rfl⟩
   obtain ⟨z2, zc2⟩ := F0.out k hkd.out
   obtain ⟨y0, y1, y2, y3, y4, y5⟩ := dV_cells HO.out hkd.out
   rw [hk0, hq] at y1
   rw [hq] at z2 zc2
   have TN : Hid (inI_all (r.d.getD k tz).after) := Lib.hid z2.1
   have TL : Hid ((r.d.getD k tz).after.length ≤ 1100) := Lib.hid (by rw [getD_at hkd.out]; exact BD.out.a _ (List.getElem_mem hkd.out))
   have ZS := Lib.hid z2.src
   dsimp only at y1 ZS
   clear z2 zc2 hk0 hq
   obtain ⟨t, ht⟩ : ∃ t, t = r.d.getD k tz := ⟨_, rfl⟩
   have HT := Lib.hid ht
   rw [← ht] at y0 y1 y2 y3 y4 y5 ZS TL TN
   clear ht
   obtain ⟨q, hq⟩ : ∃ q, q = t.after.length := ⟨_, rfl⟩
   have HQ := Lib.hid hq
   rw [← hq] at y1
   clear hq
   have CZ : Hid (∀ W, Below w.heap.size w W → Calls Tryz.prog 64 #[.slice A2 q c2] W (RowK W 3 1 q (t.after.map zV))) :=
    Lib.hid fun W hW => cloneZ A2 _ (zV_wide _) (by rw [List.length_map]; have := TL.out; omega) q (by rw [List.length_map]; exact HQ.out) c2 W (ZS.out.below hW)
   obtain ⟨W4, hW4⟩ : ∃ W4, W4 = wr.alloc (.cells #[.string (str t.name), .slice A2 q c2, .int .i64 t.retry, .int .i64 t.wait, .int .i64 t.base, .string (str t.on)] 96) := ⟨_, rfl⟩
   have T4 : Hid (W4.heap[wr.heap.size]? = some (.cells #[.string (str t.name), .slice A2 q c2, .int .i64 t.retry, .int .i64 t.wait, .int .i64 t.base, .string (str t.on)] 96 (0, 0))) := Lib.hid (by rw [hW4]; exact heap_alloc_new _ _)
   have B4 : Hid (Below wr.heap.size wr W4) := Lib.hid (by rw [hW4]; exact (Below.refl _ _).alloc (Nat.le_refl _) _)
   have Z4 : Hid (W4.heap.size = wr.heap.size + 1) := Lib.hid (by rw [hW4]; simp)
   have LX : Hid (w.heap.size + 1 < W1.heap.size) := Lib.hid (by rw [Z1.out]; omega)
   have LG : Hid (W1.heap.size ≤ g) := Lib.hid hg0
   have X4 : Hid (W4.heap[w.heap.size]? = some (.cells #[.slice (some ⟨g, 0, none⟩) n c1, .int .i64 r.st, .slice p.T m p.ct, .slice p.S l p.cs] 41 (0, 0))) := Lib.hid ((B4.out.block _ (lt_of_block HX.out)).trans HX.out)
   have BB4 : Hid (Below w.heap.size w W4) := Lib.hid (HB.out.trans (B4.out.mono HB.out.size))
   have DB4 : Hid (Below w.heap.size w W4.drew) := Lib.hid ⟨BB4.out.os, BB4.out.tape, BB4.out.output, BB4.out.size, BB4.out.block⟩
   have O4 : Hid (OwnK W4 W1.heap.size 96 6 (some ⟨g, 0, none⟩) c1 (dV r.d f)) := Lib.hid (HO.out.kept fun b _ hl => B4.out.block b hl)
   have S4 : Hid (W4.cell? ⟨w.heap.size, 0, none⟩ = some (.slice (some ⟨g, 0, none⟩) n c1) ∧ W4.cell? ⟨wr.heap.size, 1, none⟩ = some (.slice A2 q c2)) := Lib.hid ⟨(obj4 X4.out).1.1, (ob6 T4.out).2.1⟩
   go_upto_region 5 with (fail)
   rw [← hW4]
   clear hW4 y0 y1 y2 y3 y4 y5 x0 x1 x2 x3
   refine wp_region_C (fun w' => w'.cell? ⟨w.heap.size, 0, none⟩ = some (.slice (some ⟨g, 0, none⟩) n c1) ∧ w'.cell? ⟨wr.heap.size, 1, none⟩ = some (.slice A2 q c2)) 9 (by kernel_rfl) ?_
   have hS0 : (fun w' : World => w'.cell? ⟨w.heap.size, 0, none⟩ = some (.slice (some ⟨g, 0, none⟩) n c1) ∧ w'.cell? ⟨wr.heap.size, 1, none⟩ = some (.slice A2 q c2)) W4.drew := S4.out
   refine takC 0 (h := ?_)
   try simp only [Act.put, List.setIfInBounds_toArray, List.set_cons_zero, List.set_cons_succ]
   refine takC 1 (h := ?_)
   try simp only [Act.put, List.setIfInBounds_toArray, List.set_cons_zero, List.set_cons_succ]
   refine takC 2 (h := ?_)
   try simp only [Act.put, List.setIfInBounds_toArray, List.set_cons_zero, List.set_cons_succ]
   refine takC 3 (h := ?_)
   try simp only [Act.put, List.setIfInBounds_toArray, List.set_cons_zero, List.set_cons_succ]
   refine takC 4 (h := ?_)
   try simp only [Act.put, List.setIfInBounds_toArray, List.set_cons_zero, List.set_cons_succ]
   refine takC 5 (h := ?_)
   try simp only [Act.put, List.setIfInBounds_toArray, List.set_cons_zero, List.set_cons_succ]
   refine wpAnyC_one (i := 6) (oi := ?o1) ?hi1 (by kernel_rfl) ?step1
   case hi1 => (simp only [List.getElem?_toArray, List.getElem?_cons_zero, List.getElem?_cons_succ]; exact rfl)
   intro K' hK
   (go_simp; go_at_call 64; (with_reducible refine (CZ.out _ DB4.out).mono ?_); rintro e W5 ⟨A5, c5, rfl, o5, b5⟩; have Q5 : Hid (∀ b, b < W4.heap.size → W5.heap[b]? = W4.heap[b]?) := Lib.hid (fun b hb => b5.out.block b hb); try dsimp only)
   refine hK.out _ _ ?_ (fun hHeld => ?_)
   ·exact fun _ => ⟨(World.cell?_of_block (w := W4) (Q5.out _ (lt_of_block X4.out))).trans S4.out.1, (World.cell?_of_block (w := W4) (Q5.out _ (lt_of_block T4.out))).trans S4.out.2⟩
   clear hK K' hHeld
   try simp only [Act.put, List.setIfInBounds_toArray, List.set_cons_zero, List.set_cons_succ]
   have O5 : Hid (OwnK W5 W1.heap.size 96 6 (some ⟨g, 0, none⟩) c1 (dV r.d f)) := Lib.hid (O4.out.kept fun b _ hl => Q5.out b hl)
   have hf5 := O5.out.thawed (k * 6 + 1)
   have S5 : Hid (W5.cell? ⟨w.heap.size, 0, none⟩ = some (.slice (some ⟨g, 0, none⟩) n c1) ∧ W5.cell? ⟨wr.heap.size, 1, none⟩ = some (.slice A2 q c2)) := Lib.hid ⟨(World.cell?_of_block (w := W4) (Q5.out _ (lt_of_block X4.out))).trans S4.out.1, (World.cell?_of_block (w := W4) (Q5.out _ (lt_of_block T4.out))).trans S4.out.2⟩
   refine wpAnyC_one (i := 7) (oi := ?o2) ?hi2 (by kernel_rfl) ?step2
   case hi2 => (simp only [List.getElem?_toArray, List.getElem?_cons_zero, List.getElem?_cons_succ]; exact rfl)
   intro K' hK
   go_simp
   refine hK.out _ _ ?_ (fun hHeld => ?_)
   ·exact fun _ => S5.out
   clear hK K' hHeld
   try simp only [Act.put, List.setIfInBounds_toArray, List.set_cons_zero, List.set_cons_succ]
   refine wpAnyC_one (i := 8) (oi := ?o3) ?hi3 (by kernel_rfl) ?step3
   case hi3 => (simp only [List.getElem?_toArray, List.getElem?_cons_zero, List.getElem?_cons_succ]; exact rfl)
   intro K' hK
   go_simp
   refine hK.out _ _ ?_ (fun hHeld => ?_)
   ·exact fun _ => S5.out
   clear hK K' hHeld
   try simp only [Act.put, List.setIfInBounds_toArray, List.set_cons_zero, List.set_cons_succ]
   have hc5 := (dV_cells O5.out hkd.out).2.1
   refine wpAnyC_one (i := 9) (oi := ?o4) ?hi4 (by kernel_rfl) ?step4
   case hi4 => (simp only [List.getElem?_toArray, List.getElem?_cons_zero, List.getElem?_cons_succ]; exact rfl)
   intro K' hK
   go_simp
   refine hK.out _ _ ?_ (fun hHeld => ?_)
   ·exact fun h => (by cases h)
   clear hK K' hHeld
   try simp only [Act.put, List.setIfInBounds_toArray, List.set_cons_zero, List.set_cons_succ]
   refine wpAnyC_done (by kernel_rfl) ?_ _
   clear hf5 hc5
   go_wp2
   go_roundw
   case rel =>
    have hq5 : q = (r.d.getD k tz).after.length := by rw [← HT.out]; exact HQ.out
    have K5 : ∀ b, b < wr.heap.size → b ≠ g → (W5.setCell ⟨g, k * 6 + 1, none⟩ (.slice A5 q c5)).heap[b]? = wr.heap[b]? := fun b hb hbg =>
     (Below.heap_setCell _ _ _ _ hbg).trans ((Q5.out b (by rw [Z4.out]; omega)).trans (B4.out.block b hb))
    have Z5 : wr.heap.size < W5.heap.size := by have h1 := b5.out.size; have h2 : W4.drew.heap.size = wr.heap.size + 1 := Z4.out; omega
    have ZE : (W5.setCell ⟨g, k * 6 + 1, none⟩ (.slice A5 q c5)).heap.size = W5.heap.size := by simp [World.setCell]
    have LX2 := LX.out
    have LG2 := LG.out
    have GW2 := GW.out
    have HZ2 := HZ.out
    have X2 := lt_of_block HX.out
    have Y2 := lt_of_block HY.out
    refine ⟨k + 1, fun i => if i = k then (A5, c5) else f i, by omega, by go_num, Lib.hid ((K5 _ X2 (by omega)).trans HX.out), Lib.hid ((K5 _ Y2 (by omega)).trans HY.out), Lib.hid ?_, Lib.hid fun i hi => ?_, Lib.hid fun i hi => ?_, Lib.hid ?_, Lib.hid (by rw [ZE]; omega)⟩
    ·rw [← dV_set hkd.out, ← hq5]
     exact O5.out.put1 (by rw [dV_len]; exact hkd.out) (by decide) rfl
    ·by_cases e : i = k
     ·subst e
      unfold NumsAt
      dsimp only
      rw [if_pos rfl, ← HT.out]
      have o6 : OwnK (W5.setCell ⟨g, i * 6 + 1, none⟩ (.slice A5 q c5)) W4.drew.heap.size 3 1 A5 c5 (t.after.map zV) := o5.out.keep fun a ea => Below.heap_setCell _ _ _ _ (by
       subst ea
       show a.block ≠ g
       have h1 := o5.out.lt.1
       have h2 : W4.drew.heap.size = wr.heap.size + 1 := Z4.out
       omega)
      exact ⟨o6.zsO TN.out fun a ea => by
       show W3.heap.size ≤ a.block
       have h1 := o6.own a ea
       have h2 : W4.drew.heap.size = wr.heap.size + 1 := Z4.out
       omega, by have := o6.cap_; rwa [List.length_map] at this⟩
     ·unfold NumsAt
      dsimp only
      rw [if_neg e]
      obtain ⟨n1, n2⟩ := HF.out i (by omega)
      exact ⟨n1.keep (by rw [ZE]; omega) fun b hb hl => K5 b hl (by omega), n2⟩
    ·dsimp only
     rw [if_neg (by omega)]
     exact HE.out i (by omega)
    ·exact (BB4.out.trans ((⟨b5.out.os, b5.out.tape, b5.out.output, b5.out.size, b5.out.block⟩ : Below W4.heap.size W4 W5).mono BB4.out.size)).setCell (p := ⟨g, k * 6 + 1, none⟩) (by show w.heap.size ≤ g; omega) _
   case measure => simp [intOf]; omega
  ·obtain rfl : k = n := by omega
   have hge : ¬ (k : Int) < (k : Int) := by omega
   have LX : Hid (w.heap.size + 1 < W1.heap.size) := Lib.hid (by rw [Z1.out]; omega)
   have L3 : Hid (W1.heap.size ≤ W3.heap.size) := Lib.hid (by have h1 := Z1.out; have h2 := Z2.out; have h3 := Z3.out; omega)
   have D0 : Hid (DefO wr (fun b => W1.heap.size ≤ b ∧ b < wr.heap.size) A1 r.d) := Lib.hid ((HO.out.defO NI.out (O := fun b => W1.heap.size ≤ b) HO.out.own fun i hi => ⟨(HF.out i (by rw [HN.out]; exact hi)).1.imp fun b _ hb => Nat.le_trans L3.out hb, (HF.out i (by rw [HN.out]; exact hi)).2⟩).imp fun b hl hb => ⟨hb, hl⟩)
   have DC : Hid (r.d.length ≤ c1) := Lib.hid (by have := HO.out.cap_; rwa [dV_len] at this)
   have XL : Hid (w.heap.size < wr.heap.size) := Lib.hid (lt_of_block HX.out)
   have YL : Hid (w.heap.size + 1 < wr.heap.size) := Lib.hid (lt_of_block HY.out)
   clear HO HF HE R3 X3 Y3 B3 K3 Z3 Z2 B1
   go_wp2_with fail
   (with_reducible refine (CT.out wr HB.out).mono ?_); rintro e W6 ⟨T6, c6, rfl, o6, b6⟩
   have X6 : Hid (W6.heap[w.heap.size]? = some (.cells #[.slice A1 k c1, .int .i64 r.st, .slice p.T m p.ct, .slice p.S l p.cs] 41 (0, 0))) := Lib.hid ((b6.out.block _ XL.out).trans HX.out)
   obtain ⟨W7, hW7⟩ : ∃ W7, W7 = W6.setCell ⟨w.heap.size, 2, none⟩ (.slice T6 m c6) := ⟨_, rfl⟩
   have X7 : Hid (W7.heap[w.heap.size]? = some (.cells #[.slice A1 k c1, .int .i64 r.st, .slice T6 m c6, .slice p.S l p.cs] 41 (0, 0))) := Lib.hid (by rw [hW7]; exact heap_setCell_same _ _ 2 _ _ _ X6.out)
   have K7 : Hid (∀ b, b ≠ w.heap.size → W7.heap[b]? = W6.heap[b]?) := Lib.hid fun b hb => by rw [hW7]; exact Below.heap_setCell _ _ _ _ hb
   have Z7 : Hid (W7.heap.size = W6.heap.size) := Lib.hid (by rw [hW7]; simp [World.setCell])
   have B7 : Hid (Below w.heap.size w W7) := Lib.hid (by rw [hW7]; exact (HB.out.trans (b6.out.mono (Nat.le_of_lt XL.out))).setCell (p := ⟨w.heap.size, 2, none⟩) (Nat.le_refl _) _)
   clear x0 x1 x2 x3
   obtain ⟨⟨x0, x1, x2, x3⟩, f0, f1, f2, f3⟩ := obj4 X6.out
   go_upto_region 8 with (fail)
   rw [← hW7]
   clear hW7 x0 x1 x2 x3 f0 f1 f2 f3
   obtain ⟨⟨x0, x1, x2, x3⟩, -⟩ := obj4 X7.out
   go_wp2_with fail
   (with_reducible refine (CS.out W7 B7.out).mono ?_); rintro e W8 ⟨S8, c8, rfl, o8, b8⟩
   have XL7 : Hid (w.heap.size < W7.heap.size) := Lib.hid (lt_of_block X7.out)
   have X8 : Hid (W8.heap[w.heap.size]? = some (.cells #[.slice A1 k c1, .int .i64 r.st, .slice T6 m c6, .slice p.S l p.cs] 41 (0, 0))) := Lib.hid ((b8.out.block _ XL7.out).trans X7.out)
   have M7 : Hid (wr.heap.size ≤ W7.heap.size) := Lib.hid (by rw [Z7.out]; exact b6.out.size)
   have Y8 : Hid (W8.heap[w.heap.size + 1]? = some (.cells #[.slice none 0 0, .int .i64 0, .slice none 0 0, .slice none 0 0] 41 (0, 0))) := Lib.hid ((b8.out.block _ (Nat.lt_of_lt_of_le YL.out M7.out)).trans ((K7.out _ (by omega)).trans ((b6.out.block _ YL.out).trans HY.out)))
   clear x0 x1 x2 x3
   obtain ⟨⟨x0, x1, x2, x3⟩, f0, f1, f2, f3⟩ := obj4 X8.out
   obtain ⟨W9, hW9⟩ : ∃ W9, W9 = W8.setCell ⟨w.heap.size, 3, none⟩ (.slice S8 l c8) := ⟨_, rfl⟩
   have X9 : Hid (W9.heap[w.heap.size]? = some (.cells #[.slice A1 k c1, .int .i64 r.st, .slice T6 m c6, .slice S8 l c8] 41 (0, 0))) := Lib.hid (by rw [hW9]; exact heap_setCell_same _ _ 3 _ _ _ X8.out)
   have K9 : Hid (∀ b, b ≠ w.heap.size → W9.heap[b]? = W8.heap[b]?) := Lib.hid fun b hb => by rw [hW9]; exact Below.heap_setCell _ _ _ _ hb
   have Z9 : Hid (W9.heap.size = W8.heap.size) := Lib.hid (by rw [hW9]; simp [World.setCell])
   have Y9 : Hid (W9.heap[w.heap.size + 1]? = some (.cells #[.slice none 0 0, .int .i64 0, .slice none 0 0, .slice none 0 0] 41 (0, 0))) := Lib.hid ((K9.out _ (by omega)).trans Y8.out)
   have B9 : Hid (Below w.heap.size w W9) := Lib.hid (by rw [hW9]; exact (B7.out.trans (b8.out.mono (Nat.le_of_lt XL7.out))).setCell (p := ⟨w.heap.size, 3, none⟩) (Nat.le_refl _) _)
   go_upto_region 9 with (fail)
   rw [← hW9]
   clear hW9 x0 x1 x2 x3 f0 f1 f2 f3 X8 Y8
   obtain ⟨⟨x0, x1, x2, x3⟩, -⟩ := obj4 X9.out
   obtain ⟨⟨v0, v1, v2, v3⟩, f0, f1, f2, f3⟩ := obj4 Y9.out
   go_wp2_with fail
   have WE : (((W9.setCell ⟨w.heap.size + 1, 0, none⟩ (.slice A1 k c1)).setCell ⟨w.heap.size + 1, 1, none⟩ (.int .i64 r.st)).setCell ⟨w.heap.size + 1, 2, none⟩ (.slice T6 m c6)).setCell ⟨w.heap.size + 1, 3, none⟩ (.slice S8 l c8) = S4 W9 (w.heap.size + 1) (.slice A1 k c1) (.int .i64 r.st) (.slice T6 m c6) (.slice S8 l c8) := rfl
   rw [WE]
   have H5 := S4.at_ Y9.out (.slice A1 k c1) (.int .i64 r.st) (.slice T6 m c6) (.slice S8 l c8)
   have BF : Hid (Below w.heap.size w (S4 W9 (w.heap.size + 1) (.slice A1 k c1) (.int .i64 r.st) (.slice T6 m c6) (.slice S8 l c8))) := Lib.hid (S4.below B9.out (by omega) _ _ _ _)
   have KF : Hid (∀ b, b ≠ w.heap.size + 1 → (S4 W9 (w.heap.size + 1) (.slice A1 k c1) (.int .i64 r.st) (.slice T6 m c6) (.slice S8 l c8)).heap[b]? = W9.heap[b]?) := Lib.hid fun b hb => S4.else_ _ _ _ _ _ _ hb
   have ZF : Hid ((S4 W9 (w.heap.size + 1) (.slice A1 k c1) (.int .i64 r.st) (.slice T6 m c6) (.slice S8 l c8)).heap.size = W9.heap.size) := Lib.hid (S4.size_ _ _ _ _ _ _)
   obtain ⟨⟨d0, d1, d2, d3⟩, -⟩ := obj4 H5
   generalize S4 W9 (w.heap.size + 1) (.slice A1 k c1) (.int .i64 r.st) (.slice T6 m c6) (.slice S8 l c8) = WF at *
   have K6 : Hid (∀ b, b ≠ w.heap.size → b ≠ w.heap.size + 1 → b < W7.heap.size → WF.heap[b]? = W6.heap[b]?) := Lib.hid fun b h1 h2 h3 => (KF.out b h2).trans ((K9.out b h1).trans ((b8.out.block b h3).trans (K7.out b h1)))
   have SZ : Hid (W8.heap.size ≤ WF.heap.size) := Lib.hid (by rw [ZF.out, Z9.out]; exact Nat.le_refl _)
   refine bodyPost_ret (v := .agg #[.slice A1 k c1, .int .i64 r.st, .slice T6 m c6, .slice S8 l c8]) ?_ rfl ⟨⟨A1, c1, T6, c6, S8, c8⟩, rfl, Lib.hid ⟨?_, DC.out, ?_, TI.out, ?_, ?_⟩, BF⟩
   ·simp [results, Tryz.results78, go_sem, d0, d1, d2, d3]
   ·refine (D0.out.imp (O' := fun b => W1.heap.size ≤ b ∧ (Off b T6 ∧ Off b S8) ∧ b < wr.heap.size) fun b hl hb => ⟨hb.1, ⟨fun a ea => ?_, fun a ea => ?_⟩, hl⟩).keep ?_ (fun b hb hl => ?_) |>.imp fun b _ hb => ⟨Nat.le_trans (by have := LX.out; omega) hb.1, hb.2.1⟩
    ·have h1 := o6.out.own a ea
     omega
    ·have h1 := o8.out.own a ea
     have h2 := M7.out
     omega
    ·have h1 := SZ.out
     have h2 := b8.out.size
     have h3 := M7.out
     omega
    ·have h1 := LX.out
     have h2 := M7.out
     exact (K6.out b (by omega) (by omega) (by omega)).trans (b6.out.block b hl)
   ·refine (o6.out.kept fun b hb hl => ?_).low (Nat.le_of_lt XL.out)
    have h1 := XL.out
    have h2 := YL.out
    exact K6.out b (by omega) (by omega) (by rw [Z7.out]; exact hl)
   ·refine (o8.out.kept fun b hb hl => ?_).low (Nat.le_of_lt XL7.out)
    have h1 := XL.out
    have h2 := YL.out
    have h3 := M7.out
    exact (KF.out b (by omega)).trans (K9.out b (by omega))
   ·intro a ea a2 ea2 e2
    have h1 := o8.out.own a ea
    have h2 : a2.block < W6.heap.size := by subst ea2; exact o6.out.lt.2
    have h3 := Z7.out
    omega
theorem copied_p (p : At3) (r : Rn.R) (hB : Bd r) (w : World) (O : Nat → Prop) (h : RunO w O p r) :
  Calls Tryz.prog 78 #[rv p r] w fun e w' => ∃ q, e = .returned (rv q r) ∧ Hid (Own3 w' w.heap.size q r) ∧ Hid (Below w.heap.size w w') := copied_w p r hB w O ⟨h.d, h.t, h.s⟩
end Go.Proofs.YtkbekojnmdgdgaaGreatDoor
/- FlCopy -/
namespace Go.Proofs.YtkbekojnmdgdgaaGreatDoor
open Go.RowKit
set_option maxRecDepth 20000
set_option maxHeartbeats 4000000 in
theorem copyOf_w (p : At3) (r : Rn.R) (hB : Bd r) (w : World) (O : Nat → Prop) (h : RunW w O p r) :
  Calls Tryz.prog 35 #[rv p r] w fun e w' => ∃ q, e = .returned (rv q r) ∧ Hid (Own3 w' w.heap.size q r) ∧ Hid (Below w.heap.size w w') := by
 obtain ⟨fn, hs0, hf0⟩ := h.d.src
 have NI := Lib.hid h.d.1
 have SD := Lib.hid hs0
 have F0 := Lib.hid hf0
 have ST := Lib.hid h.t.src
 have SS := Lib.hid h.s.src
 have TI := Lib.hid h.t.1
 have BD := Lib.hid hB
 obtain ⟨n, hn⟩ : ∃ n, n = r.d.length := ⟨_, rfl⟩
 obtain ⟨m, hm⟩ : ∃ m, m = r.ts.length := ⟨_, rfl⟩
 obtain ⟨l, hl⟩ : ∃ l, l = r.sg.length := ⟨_, rfl⟩
 have HN := Lib.hid hn
 have HM := Lib.hid hm
 have HL := Lib.hid hl
 have hn9 : n ≤ 1100 := by rw [hn]; exact hB.d
 unfold rv
 rw [← hn, ← hm, ← hl]
 clear h hs0 hf0 hB hn hm hl
 have CD : Hid (∀ W, Below w.heap.size w W → Calls Tryz.prog 63 #[.slice p.A n p.ca] W (RowK W 96 6 n (dV r.d fn))) :=
  Lib.hid fun W hW => cloneD p.A _ (dV_wide _ _) (by rw [dV_len]; have := BD.out.d; omega) n (by rw [dV_len]; exact HN.out) p.ca W (SD.out.below hW)
 have CT : Hid (∀ W, Below w.heap.size w W → Calls Tryz.prog 65 #[.slice p.T m p.ct] W (RowK W 47 4 m (r.ts.map tkV))) :=
  Lib.hid fun W hW => cloneT p.T _ (tkV_wide _) (by rw [List.length_map]; have := BD.out.t; omega) m (by rw [List.length_map]; exact HM.out) p.ct W (ST.out.below hW)
 have CS : Hid (∀ W, Below w.heap.size w W → Calls Tryz.prog 38 #[.slice p.S l p.cs] W (RowK W 9 1 l (r.sg.map sgV))) :=
  Lib.hid fun W hW => cloneS p.S _ (sgV_wide _) (by rw [List.length_map]; have := BD.out.s; omega) l (by rw [List.length_map]; exact HL.out) p.cs W (SS.out.below hW)
 obtain ⟨W1, hW1⟩ : ∃ W1, W1 = (w.alloc (.cells #[.slice p.A n p.ca, .int .i64 r.st, .slice p.T m p.ct, .slice p.S l p.cs] 41)).alloc (.cells #[.slice none 0 0, .int .i64 0, .slice none 0 0, .slice none 0 0] 41) := ⟨_, rfl⟩
 have B1 : Hid (Below w.heap.size w W1) := Lib.hid (by rw [hW1]; exact ((Below.refl _ _).alloc (Nat.le_refl _) _).alloc (by simp) _)
 have Z1 : Hid (W1.heap.size = w.heap.size + 1 + 1) := Lib.hid (by rw [hW1]; simp)
 have X1 : Hid (W1.heap[w.heap.size]? = some (.cells #[.slice p.A n p.ca, .int .i64 r.st, .slice p.T m p.ct, .slice p.S l p.cs] 41 (0, 0))) := Lib.hid (by rw [hW1]; exact box0 _ _ _)
 have Y1 : Hid (W1.heap[w.heap.size + 1]? = some (.cells #[.slice none 0 0, .int .i64 0, .slice none 0 0, .slice none 0 0] 41 (0, 0))) := Lib.hid (by rw [hW1]; exact box1 _ _ _)
 go_enter Tryz.func35, Tryz.ntmps35
 go_wp2_with fail
 rw [← hW1]
 clear hW1
 (with_reducible refine (CD.out W1 B1.out).mono ?_); rintro e W2 ⟨A1, c1, rfl, ho1, hb1⟩
 have X2 : Hid (W2.heap[w.heap.size]? = some (.cells #[.slice p.A n p.ca, .int .i64 r.st, .slice p.T m p.ct, .slice p.S l p.cs] 41 (0, 0))) := Lib.hid ((hb1.out.block _ (by rw [Z1.out]; omega)).trans X1.out)
 have Y2 : Hid (W2.heap[w.heap.size + 1]? = some (.cells #[.slice none 0 0, .int .i64 0, .slice none 0 0, .slice none 0 0] 41 (0, 0))) := Lib.hid ((hb1.out.block _ (by rw [Z1.out]; omega)).trans Y1.out)
 have Z2 : Hid (w.heap.size + 1 + 1 ≤ W2.heap.size) := Lib.hid (by have := hb1.out.size; rwa [Z1.out] at this)
 have B2 : Hid (Below w.heap.size w W2) := Lib.hid (B1.out.trans (hb1.out.mono (by rw [Z1.out]; omega)))
 obtain ⟨⟨x0, x1, x2, x3⟩, f0, f1, f2, f3⟩ := obj4 X2.out
 obtain ⟨W3, hW3⟩ : ∃ W3, W3 = W2.setCell ⟨w.heap.size, 0, none⟩ (.slice A1 n c1) := ⟨_, rfl⟩
 have X3 : Hid (W3.heap[w.heap.size]? = some (.cells #[.slice A1 n c1, .int .i64 r.st, .slice p.T m p.ct, .slice p.S l p.cs] 41 (0, 0))) := Lib.hid (by rw [hW3]; exact heap_setCell_same _ _ 0 _ _ _ X2.out)
 have K3 : Hid (∀ k, k ≠ w.heap.size → W3.heap[k]? = W2.heap[k]?) := Lib.hid fun k hk => by rw [hW3]; exact Below.heap_setCell _ _ _ _ hk
 have Z3 : Hid (W3.heap.size = W2.heap.size) := Lib.hid (by rw [hW3]; simp [World.setCell])
 have Y3 : Hid (W3.heap[w.heap.size + 1]? = some (.cells #[.slice none 0 0, .int .i64 0, .slice none 0 0, .slice none 0 0] 41 (0, 0))) := Lib.hid ((K3.out _ (by omega)).trans Y2.out)
 have B3 : Hid (Below w.heap.size w W3) := Lib.hid (by rw [hW3]; exact B2.out.setCell (p := ⟨w.heap.size, 0, none⟩) (Nat.le_refl _) _)
 have R3 : Hid (OwnK W3 W1.heap.size 96 6 A1 c1 (dV r.d fn)) := Lib.hid (ho1.out.kept fun b hb _ => K3.out b (by rw [Z1.out] at hb; omega))
 clear X1 Y1 X2 Y2 ho1 hb1 B2 CD
 go_upto_region 2 with (fail)
 rw [← hW3]
 clear hW3 x0 x1 x2 x3 f0 f1 f2 f3
 obtain ⟨⟨x0, x1, x2, x3⟩, -⟩ := obj4 X3.out
 go_wp2_with fail
 go_loopw [15] (fun iv wr => ∃ (k : Nat) (f : Nat → Option Addr × Nat), k ≤ n ∧ iv = .int .i64 k ∧
  Hid (wr.heap[w.heap.size]? = some (.cells #[.slice A1 n c1, .int .i64 r.st, .slice p.T m p.ct, .slice p.S l p.cs] 41 (0, 0))) ∧
  Hid (wr.heap[w.heap.size + 1]? = some (.cells #[.slice none 0 0, .int .i64 0, .slice none 0 0, .slice none 0 0] 41 (0, 0))) ∧
  Hid (OwnK wr W1.heap.size 96 6 A1 c1 (dV r.d f)) ∧ Hid (∀ i, i < k → NumsAt wr (fun b => W3.heap.size ≤ b) r.d f i) ∧ Hid (∀ i, k ≤ i → f i = fn i) ∧
  Hid (Below w.heap.size w wr) ∧ Hid (W3.heap.size ≤ wr.heap.size)) (fun iv _ => n - (intOf iv).toNat)
 case atStart => exact ⟨0, fn, Nat.zero_le _, rfl, X3, Y3, R3, Lib.hid fun i hi => by omega, Lib.hid fun _ _ => rfl, B3, Lib.hid (Nat.le_refl _)⟩
 case round =>
  obtain ⟨k, f, hk, rfl, HX, HY, HO, HF, HE, HB, HZ⟩ := hrel
  clear x0 x1 x2 x3
  obtain ⟨⟨x0, x1, x2, x3⟩, -⟩ := obj4 HX.out
  by_cases hlt : k < n
  ·have hlt' : (k : Int) < (n : Int) := by omega
   have hkd : Hid (k < r.d.length) := Lib.hid (by rw [← HN.out]; exact hlt)
   obtain ⟨g, rfl, hg0, hg1⟩ := HO.out.shape (by rw [dV_len]; have := hkd.out; omega)
   have GW : Hid (g < W3.heap.size) := Lib.hid R3.out.lt.2
   have hk0 := HE.out k (Nat.le_refl k)
   obtain ⟨A2, c2, hq⟩ : ∃ A2 c2, fn k = (A2, c2) := ⟨_, _, rfl⟩
   obtain ⟨z2, zc2⟩ := F0.out k hkd.out
   obtain ⟨y0, y1, y2, y3, y4, y5⟩ := dV_cells HO.out hkd.out
   rw [hk0, hq] at y1
   rw [hq] at z2 zc2
   have TN : Hid (inI_all (r.d.getD k tz).after) := Lib.hid z2.1
   have TL : Hid ((r.d.getD k tz).after.length ≤ 1100) := Lib.hid (by rw [getD_at hkd.out]; exact BD.out.a _ (List.getElem_mem hkd.out))
   have ZS := Lib.hid z2.src
   dsimp only at y1 ZS
   clear z2 zc2 hk0 hq
   obtain ⟨t, ht⟩ : ∃ t, t = r.d.getD k tz := ⟨_, rfl⟩
   have HT := Lib.hid ht
   rw [← ht] at y0 y1 y2 y3 y4 y5 ZS TL TN
   clear ht
   obtain ⟨q, hq⟩ : ∃ q, q = t.after.length := ⟨_, rfl⟩
   have HQ := Lib.hid hq
   rw [← hq] at y1
   clear hq
   have CZ : Hid (∀ W, Below w.heap.size w W → Calls Tryz.prog 64 #[.slice A2 q c2] W (RowK W 3 1 q (t.after.map zV))) :=
    Lib.hid fun W hW => cloneZ A2 _ (zV_wide _) (by rw [List.length_map]; have := TL.out; omega) q (by rw [List.length_map]; exact HQ.out) c2 W (ZS.out.below hW)
   obtain ⟨W4, hW4⟩ : ∃ W4, W4 = wr.alloc (.cells #[.string (str t.name), .slice A2 q c2, .int .i64 t.retry, .int .i64 t.wait, .int .i64 t.base, .string (str t.on)] 96) := ⟨_, rfl⟩
   have T4 : Hid (W4.heap[wr.heap.size]? = some (.cells #[.string (str t.name), .slice A2 q c2, .int .i64 t.retry, .int .i64 t.wait, .int .i64 t.base, .string (str t.on)] 96 (0, 0))) := Lib.hid (by rw [hW4]; exact heap_alloc_new _ _)
   have B4 : Hid (Below wr.heap.size wr W4) := Lib.hid (by rw [hW4]; exact (Below.refl _ _).alloc (Nat.le_refl _) _)
   have Z4 : Hid (W4.heap.size = wr.heap.size + 1) := Lib.hid (by rw [hW4]; simp)
   have LX : Hid (w.heap.size + 1 < W1.heap.size) := Lib.hid (by rw [Z1.out]; omega)
   have LG : Hid (W1.heap.size ≤ g) := Lib.hid hg0
   have X4 : Hid (W4.heap[w.heap.size]? = some (.cells #[.slice (some ⟨g, 0, none⟩) n c1, .int .i64 r.st, .slice p.T m p.ct, .slice p.S l p.cs] 41 (0, 0))) := Lib.hid ((B4.out.block _ (lt_of_block HX.out)).trans HX.out)
   have BB4 : Hid (Below w.heap.size w W4) := Lib.hid (HB.out.trans (B4.out.mono HB.out.size))
   have DB4 : Hid (Below w.heap.size w W4.drew) := Lib.hid ⟨BB4.out.os, BB4.out.tape, BB4.out.output, BB4.out.size, BB4.out.block⟩
   have O4 : Hid (OwnK W4 W1.heap.size 96 6 (some ⟨g, 0, none⟩) c1 (dV r.d f)) := Lib.hid (HO.out.kept fun b _ hl => B4.out.block b hl)
   have S4 : Hid (W4.cell? ⟨w.heap.size, 0, none⟩ = some (.slice (some ⟨g, 0, none⟩) n c1) ∧ W4.cell? ⟨wr.heap.size, 1, none⟩ = some (.slice A2 q c2)) := Lib.hid ⟨(obj4 X4.out).1.1, (ob6 T4.out).2.1⟩
   go_upto_region 5 with (fail)
   rw [← hW4]
   clear hW4 y0 y1 y2 y3 y4 y5 x0 x1 x2 x3
   refine wp_region_C (fun w' => w'.cell? ⟨w.heap.size, 0, none⟩ = some (.slice (some ⟨g, 0, none⟩) n c1) ∧ w'.cell? ⟨wr.heap.size, 1, none⟩ = some (.slice A2 q c2)) 9 (by kernel_rfl) ?_
   have hS0 : (fun w' : World => w'.cell? ⟨w.heap.size, 0, none⟩ = some (.slice (some ⟨g, 0, none⟩) n c1) ∧ w'.cell? ⟨wr.heap.size, 1, none⟩ = some (.slice A2 q c2)) W4.drew := S4.out
   refine takC 0 (h := ?_)
   try simp only [Act.put, List.setIfInBounds_toArray, List.set_cons_zero, List.set_cons_succ]
   refine takC 1 (h := ?_)
   try simp only [Act.put, List.setIfInBounds_toArray, List.set_cons_zero, List.set_cons_succ]
   refine takC 2 (h := ?_)
   try simp only [Act.put, List.setIfInBounds_toArray, List.set_cons_zero, List.set_cons_succ]
   refine takC 3 (h := ?_)
   try simp only [Act.put, List.setIfInBounds_toArray, List.set_cons_zero, List.set_cons_succ]
   refine takC 4 (h := ?_)
   try simp only [Act.put, List.setIfInBounds_toArray, List.set_cons_zero, List.set_cons_succ]
   refine takC 5 (h := ?_)
   try simp only [Act.put, List.setIfInBounds_toArray, List.set_cons_zero, List.set_cons_succ]
   refine wpAnyC_one (i := 6) (oi := ?o1) ?hi1 (by kernel_rfl) ?step1
   case hi1 => (simp only [List.getElem?_toArray, List.getElem?_cons_zero, List.getElem?_cons_succ]; exact rfl)
   intro K' hK
   (go_simp; go_at_call 64; (with_reducible refine (CZ.out _ DB4.out).mono ?_); rintro e W5 ⟨A5, c5, rfl, o5, b5⟩; have Q5 : Hid (∀ b, b < W4.heap.size → W5.heap[b]? = W4.heap[b]?) := Lib.hid (fun b hb => b5.out.block b hb); try dsimp only)
   refine hK.out _ _ ?_ (fun hHeld => ?_)
   ·exact fun _ => ⟨(World.cell?_of_block (w := W4) (Q5.out _ (lt_of_block X4.out))).trans S4.out.1, (World.cell?_of_block (w := W4) (Q5.out _ (lt_of_block T4.out))).trans S4.out.2⟩
   clear hK K' hHeld
   try simp only [Act.put, List.setIfInBounds_toArray, List.set_cons_zero, List.set_cons_succ]
   have O5 : Hid (OwnK W5 W1.heap.size 96 6 (some ⟨g, 0, none⟩) c1 (dV r.d f)) := Lib.hid (O4.out.kept fun b _ hl => Q5.out b hl)
   have hf5 := O5.out.thawed (k * 6 + 1)
   have S5 : Hid (W5.cell? ⟨w.heap.size, 0, none⟩ = some (.slice (some ⟨g, 0, none⟩) n c1) ∧ W5.cell? ⟨wr.heap.size, 1, none⟩ = some (.slice A2 q c2)) := Lib.hid ⟨(World.cell?_of_block (w := W4) (Q5.out _ (lt_of_block X4.out))).trans S4.out.1, (World.cell?_of_block (w := W4) (Q5.out _ (lt_of_block T4.out))).trans S4.out.2⟩
   refine wpAnyC_one (i := 7) (oi := ?o2) ?hi2 (by kernel_rfl) ?step2
   case hi2 => (simp only [List.getElem?_toArray, List.getElem?_cons_zero, List.getElem?_cons_succ]; exact rfl)
   intro K' hK
   go_simp
   refine hK.out _ _ ?_ (fun hHeld => ?_)
   ·exact fun _ => S5.out
   clear hK K' hHeld
   try simp only [Act.put, List.setIfInBounds_toArray, List.set_cons_zero, List.set_cons_succ]
   refine wpAnyC_one (i := 8) (oi := ?o3) ?hi3 (by kernel_rfl) ?step3
   case hi3 => (simp only [List.getElem?_toArray, List.getElem?_cons_zero, List.getElem?_cons_succ]; exact rfl)
   intro K' hK
   go_simp
   refine hK.out _ _ ?_ (fun hHeld => ?_)
   ·exact fun _ => S5.out
   clear hK K' hHeld
   try simp only [Act.put, List.setIfInBounds_toArray, List.set_cons_zero, List.set_cons_succ]
   have hc5 := (dV_cells O5.out hkd.out).2.1
   refine wpAnyC_one (i := 9) (oi := ?o4) ?hi4 (by kernel_rfl) ?step4
   case hi4 => (simp only [List.getElem?_toArray, List.getElem?_cons_zero, List.getElem?_cons_succ]; exact rfl)
   intro K' hK
   go_simp
   refine hK.out _ _ ?_ (fun hHeld => ?_)
   ·exact fun h => (by cases h)
   clear hK K' hHeld
   try simp only [Act.put, List.setIfInBounds_toArray, List.set_cons_zero, List.set_cons_succ]
   refine wpAnyC_done (by kernel_rfl) ?_ _
   clear hf5 hc5
   go_wp2
   go_roundw
   case rel =>
    have hq5 : q = (r.d.getD k tz).after.length := by rw [← HT.out]; exact HQ.out
    have K5 : ∀ b, b < wr.heap.size → b ≠ g → (W5.setCell ⟨g, k * 6 + 1, none⟩ (.slice A5 q c5)).heap[b]? = wr.heap[b]? := fun b hb hbg =>
     (Below.heap_setCell _ _ _ _ hbg).trans ((Q5.out b (by rw [Z4.out]; omega)).trans (B4.out.block b hb))
    have Z5 : wr.heap.size < W5.heap.size := by have h1 := b5.out.size; have h2 : W4.drew.heap.size = wr.heap.size + 1 := Z4.out; omega
    have ZE : (W5.setCell ⟨g, k * 6 + 1, none⟩ (.slice A5 q c5)).heap.size = W5.heap.size := by simp [World.setCell]
    have LX2 := LX.out
    have LG2 := LG.out
    have GW2 := GW.out
    have HZ2 := HZ.out
    have X2 := lt_of_block HX.out
    have Y2 := lt_of_block HY.out
    refine ⟨k + 1, fun i => if i = k then (A5, c5) else f i, by omega, by go_num, Lib.hid ((K5 _ X2 (by omega)).trans HX.out), Lib.hid ((K5 _ Y2 (by omega)).trans HY.out), Lib.hid ?_, Lib.hid fun i hi => ?_, Lib.hid fun i hi => ?_, Lib.hid ?_, Lib.hid (by rw [ZE]; omega)⟩
    ·rw [← dV_set hkd.out, ← hq5]
     exact O5.out.put1 (by rw [dV_len]; exact hkd.out) (by decide) rfl
    ·by_cases e : i = k
     ·subst e
      unfold NumsAt
      dsimp only
      rw [if_pos rfl, ← HT.out]
      have o6 : OwnK (W5.setCell ⟨g, i * 6 + 1, none⟩ (.slice A5 q c5)) W4.drew.heap.size 3 1 A5 c5 (t.after.map zV) := o5.out.keep fun a ea => Below.heap_setCell _ _ _ _ (by
       subst ea
       show a.block ≠ g
       have h1 := o5.out.lt.1
       have h2 : W4.drew.heap.size = wr.heap.size + 1 := Z4.out
       omega)
      exact ⟨o6.zsO TN.out fun a ea => by
       show W3.heap.size ≤ a.block
       have h1 := o6.own a ea
       have h2 : W4.drew.heap.size = wr.heap.size + 1 := Z4.out
       omega, by have := o6.cap_; rwa [List.length_map] at this⟩
     ·unfold NumsAt
      dsimp only
      rw [if_neg e]
      obtain ⟨n1, n2⟩ := HF.out i (by omega)
      exact ⟨n1.keep (by rw [ZE]; omega) fun b hb hl => K5 b hl (by omega), n2⟩
    ·dsimp only
     rw [if_neg (by omega)]
     exact HE.out i (by omega)
    ·exact (BB4.out.trans ((⟨b5.out.os, b5.out.tape, b5.out.output, b5.out.size, b5.out.block⟩ : Below W4.heap.size W4 W5).mono BB4.out.size)).setCell (p := ⟨g, k * 6 + 1, none⟩) (by show w.heap.size ≤ g; omega) _
   case measure => simp [intOf]; omega
  ·obtain rfl : k = n := by omega
   have hge : ¬ (k : Int) < (k : Int) := by omega
   have LX : Hid (w.heap.size + 1 < W1.heap.size) := Lib.hid (by rw [Z1.out]; omega)
   have L3 : Hid (W1.heap.size ≤ W3.heap.size) := Lib.hid (by have h1 := Z1.out; have h2 := Z2.out; have h3 := Z3.out; omega)
   have D0 : Hid (DefO wr (fun b => W1.heap.size ≤ b ∧ b < wr.heap.size) A1 r.d) := Lib.hid ((HO.out.defO NI.out (O := fun b => W1.heap.size ≤ b) HO.out.own fun i hi => ⟨(HF.out i (by rw [HN.out]; exact hi)).1.imp fun b _ hb => Nat.le_trans L3.out hb, (HF.out i (by rw [HN.out]; exact hi)).2⟩).imp fun b hl hb => ⟨hb, hl⟩)
   have DC : Hid (r.d.length ≤ c1) := Lib.hid (by have := HO.out.cap_; rwa [dV_len] at this)
   have XL : Hid (w.heap.size < wr.heap.size) := Lib.hid (lt_of_block HX.out)
   have YL : Hid (w.heap.size + 1 < wr.heap.size) := Lib.hid (lt_of_block HY.out)
   clear HO HF HE R3 X3 Y3 B3 K3 Z3 Z2 B1
   go_wp2_with fail
   (with_reducible refine (CT.out wr HB.out).mono ?_); rintro e W6 ⟨T6, c6, rfl, o6, b6⟩
   have X6 : Hid (W6.heap[w.heap.size]? = some (.cells #[.slice A1 k c1, .int .i64 r.st, .slice p.T m p.ct, .slice p.S l p.cs] 41 (0, 0))) := Lib.hid ((b6.out.block _ XL.out).trans HX.out)
   obtain ⟨W7, hW7⟩ : ∃ W7, W7 = W6.setCell ⟨w.heap.size, 2, none⟩ (.slice T6 m c6) := ⟨_, rfl⟩
   have X7 : Hid (W7.heap[w.heap.size]? = some (.cells #[.slice A1 k c1, .int .i64 r.st, .slice T6 m c6, .slice p.S l p.cs] 41 (0, 0))) := Lib.hid (by rw [hW7]; exact heap_setCell_same _ _ 2 _ _ _ X6.out)
   have K7 : Hid (∀ b, b ≠ w.heap.size → W7.heap[b]? = W6.heap[b]?) := Lib.hid fun b hb => by rw [hW7]; exact Below.heap_setCell _ _ _ _ hb
   have Z7 : Hid (W7.heap.size = W6.heap.size) := Lib.hid (by rw [hW7]; simp [World.setCell])
   have B7 : Hid (Below w.heap.size w W7) := Lib.hid (by rw [hW7]; exact (HB.out.trans (b6.out.mono (Nat.le_of_lt XL.out))).setCell (p := ⟨w.heap.size, 2, none⟩) (Nat.le_refl _) _)
   clear x0 x1 x2 x3
   obtain ⟨⟨x0, x1, x2, x3⟩, f0, f1, f2, f3⟩ := obj4 X6.out
   go_upto_region 8 with (fail)
   rw [← hW7]
   clear hW7 x0 x1 x2 x3 f0 f1 f2 f3
   obtain ⟨⟨x0, x1, x2, x3⟩, -⟩ := obj4 X7.out
   go_wp2_with fail
   (with_reducible refine (CS.out W7 B7.out).mono ?_); rintro e W8 ⟨S8, c8, rfl, o8, b8⟩
   have XL7 : Hid (w.heap.size < W7.heap.size) := Lib.hid (lt_of_block X7.out)
   have X8 : Hid (W8.heap[w.heap.size]? = some (.cells #[.slice A1 k c1, .int .i64 r.st, .slice T6 m c6, .slice p.S l p.cs] 41 (0, 0))) := Lib.hid ((b8.out.block _ XL7.out).trans X7.out)
   have M7 : Hid (wr.heap.size ≤ W7.heap.size) := Lib.hid (by rw [Z7.out]; exact b6.out.size)
   have Y8 : Hid (W8.heap[w.heap.size + 1]? = some (.cells #[.slice none 0 0, .int .i64 0, .slice none 0 0, .slice none 0 0] 41 (0, 0))) := Lib.hid ((b8.out.block _ (Nat.lt_of_lt_of_le YL.out M7.out)).trans ((K7.out _ (by omega)).trans ((b6.out.block _ YL.out).trans HY.out)))
   clear x0 x1 x2 x3
   obtain ⟨⟨x0, x1, x2, x3⟩, f0, f1, f2, f3⟩ := obj4 X8.out
   obtain ⟨W9, hW9⟩ : ∃ W9, W9 = W8.setCell ⟨w.heap.size, 3, none⟩ (.slice S8 l c8) := ⟨_, rfl⟩
   have X9 : Hid (W9.heap[w.heap.size]? = some (.cells #[.slice A1 k c1, .int .i64 r.st, .slice T6 m c6, .slice S8 l c8] 41 (0, 0))) := Lib.hid (by rw [hW9]; exact heap_setCell_same _ _ 3 _ _ _ X8.out)
   have K9 : Hid (∀ b, b ≠ w.heap.size → W9.heap[b]? = W8.heap[b]?) := Lib.hid fun b hb => by rw [hW9]; exact Below.heap_setCell _ _ _ _ hb
   have Z9 : Hid (W9.heap.size = W8.heap.size) := Lib.hid (by rw [hW9]; simp [World.setCell])
   have Y9 : Hid (W9.heap[w.heap.size + 1]? = some (.cells #[.slice none 0 0, .int .i64 0, .slice none 0 0, .slice none 0 0] 41 (0, 0))) := Lib.hid ((K9.out _ (by omega)).trans Y8.out)
   have B9 : Hid (Below w.heap.size w W9) := Lib.hid (by rw [hW9]; exact (B7.out.trans (b8.out.mono (Nat.le_of_lt XL7.out))).setCell (p := ⟨w.heap.size, 3, none⟩) (Nat.le_refl _) _)
   go_upto_region 9 with (fail)
   rw [← hW9]
   clear hW9 x0 x1 x2 x3 f0 f1 f2 f3 X8 Y8
   obtain ⟨⟨x0, x1, x2, x3⟩, -⟩ := obj4 X9.out
   obtain ⟨⟨v0, v1, v2, v3⟩, f0, f1, f2, f3⟩ := obj4 Y9.out
   go_wp2_with fail
   have WE : (((W9.setCell ⟨w.heap.size + 1, 0, none⟩ (.slice A1 k c1)).setCell ⟨w.heap.size + 1, 1, none⟩ (.int .i64 r.st)).setCell ⟨w.heap.size + 1, 2, none⟩ (.slice T6 m c6)).setCell ⟨w.heap.size + 1, 3, none⟩ (.slice S8 l c8) = S4 W9 (w.heap.size + 1) (.slice A1 k c1) (.int .i64 r.st) (.slice T6 m c6) (.slice S8 l c8) := rfl
   rw [WE]
   have H5 := S4.at_ Y9.out (.slice A1 k c1) (.int .i64 r.st) (.slice T6 m c6) (.slice S8 l c8)
   have BF : Hid (Below w.heap.size w (S4 W9 (w.heap.size + 1) (.slice A1 k c1) (.int .i64 r.st) (.slice T6 m c6) (.slice S8 l c8))) := Lib.hid (S4.below B9.out (by omega) _ _ _ _)
   have KF : Hid (∀ b, b ≠ w.heap.size + 1 → (S4 W9 (w.heap.size + 1) (.slice A1 k c1) (.int .i64 r.st) (.slice T6 m c6) (.slice S8 l c8)).heap[b]? = W9.heap[b]?) := Lib.hid fun b hb => S4.else_ _ _ _ _ _ _ hb
   have ZF : Hid ((S4 W9 (w.heap.size + 1) (.slice A1 k c1) (.int .i64 r.st) (.slice T6 m c6) (.slice S8 l c8)).heap.size = W9.heap.size) := Lib.hid (S4.size_ _ _ _ _ _ _)
   obtain ⟨⟨d0, d1, d2, d3⟩, -⟩ := obj4 H5
   generalize S4 W9 (w.heap.size + 1) (.slice A1 k c1) (.int .i64 r.st) (.slice T6 m c6) (.slice S8 l c8) = WF at *
   have K6 : Hid (∀ b, b ≠ w.heap.size → b ≠ w.heap.size + 1 → b < W7.heap.size → WF.heap[b]? = W6.heap[b]?) := Lib.hid fun b h1 h2 h3 => (KF.out b h2).trans ((K9.out b h1).trans ((b8.out.block b h3).trans (K7.out b h1)))
   have SZ : Hid (W8.heap.size ≤ WF.heap.size) := Lib.hid (by rw [ZF.out, Z9.out]; exact Nat.le_refl _)
   refine bodyPost_ret (v := .agg #[.slice A1 k c1, .int .i64 r.st, .slice T6 m c6, .slice S8 l c8]) ?_ rfl ⟨⟨A1, c1, T6, c6, S8, c8⟩, rfl, Lib.hid ⟨?_, DC.out, ?_, TI.out, ?_, ?_⟩, BF⟩
   ·simp [results, Tryz.results35, go_sem, d0, d1, d2, d3]
   ·refine (D0.out.imp (O' := fun b => W1.heap.size ≤ b ∧ (Off b T6 ∧ Off b S8) ∧ b < wr.heap.size) fun b hl hb => ⟨hb.1, ⟨fun a ea => ?_, fun a ea => ?_⟩, hl⟩).keep ?_ (fun b hb hl => ?_) |>.imp fun b _ hb => ⟨Nat.le_trans (by have := LX.out; omega) hb.1, hb.2.1⟩
    ·have h1 := o6.out.own a ea
     omega
    ·have h1 := o8.out.own a ea
     have h2 := M7.out
     omega
    ·have h1 := SZ.out
     have h2 := b8.out.size
     have h3 := M7.out
     omega
    ·have h1 := LX.out
     have h2 := M7.out
     exact (K6.out b (by omega) (by omega) (by omega)).trans (b6.out.block b hl)
   ·refine (o6.out.kept fun b hb hl => ?_).low (Nat.le_of_lt XL.out)
    have h1 := XL.out
    have h2 := YL.out
    exact K6.out b (by omega) (by omega) (by rw [Z7.out]; exact hl)
   ·refine (o8.out.kept fun b hb hl => ?_).low (Nat.le_of_lt XL7.out)
    have h1 := XL.out
    have h2 := YL.out
    have h3 := M7.out
    exact (KF.out b (by omega)).trans (K9.out b (by omega))
   ·intro a ea a2 ea2 e2
    have h1 := o8.out.own a ea
    have h2 : a2.block < W6.heap.size := by subst ea2; exact o6.out.lt.2
    have h3 := Z7.out
    omega
theorem copyOf_p (p : At3) (r : Rn.R) (hB : Bd r) (w : World) (O : Nat → Prop) (h : RunO w O p r) :
  Calls Tryz.prog 35 #[rv p r] w fun e w' => ∃ q, e = .returned (rv q r) ∧ Hid (Own3 w' w.heap.size q r) ∧ Hid (Below w.heap.size w w') := copyOf_w p r hB w O ⟨h.d, h.t, h.s⟩
end Go.Proofs.YtkbekojnmdgdgaaGreatDoor
