/-
  Part 28 of the texts behind the law: TRnNew.
-/
import Derived.Test.YtkbekojnmdgdgaaGreatDoorTf22
import Derived.Test.YtkbekojnmdgdgaaGreatDoorTf19
import Derived.Test.YtkbekojnmdgdgaaGreatDoorTf9
import Derived.Deep.CutRange
/- RnNew -/
namespace Go.Proofs.YtkbekojnmdgdgaaGreatDoor
open Go.RowKit
set_option maxRecDepth 20000
structure NewS (w W : World) (X : Nat) (q : At3) (n : Nat) (r : Rn.R) : Prop where
 box : boxR W X q n 0 n 0
 own : Own3 W (w.heap.size + 1 + 1) q r
 ap : Apart3 W (w.heap.size + 1 + 1) X q r.d
 zero : zeroR W (w.heap.size + 1)
 below : Below w.heap.size w W
 wx : w.heap.size + 1 + 1 ≤ X
theorem NewS.of {w W : World} {X : Nat} {q : At3} {n : Nat} {r : Rn.R} (hz : zeroR W X) (ho : Own3 W (w.heap.size + 1 + 1) q r) (ha : Apart3 W (w.heap.size + 1 + 1) X q r.d) (h0 : zeroR W (w.heap.size + 1)) (hb : Below w.heap.size w W) (wx : w.heap.size + 1 + 1 ≤ X) :
  NewS w (S4 W X (.slice q.A n q.ca) (.int .i64 0) (.slice q.T n q.ct) (.slice q.S 0 q.cs)) X q n r := by
 have Z := S4.size_ W X (.slice q.A n q.ca) (.int .i64 0) (.slice q.T n q.ct) (.slice q.S 0 q.cs)
 have K : ∀ b, b ≠ X → (S4 W X (.slice q.A n q.ca) (.int .i64 0) (.slice q.T n q.ct) (.slice q.S 0 q.cs)).heap[b]? = W.heap[b]? := fun b hb => S4.else_ _ _ _ _ _ _ hb
 have D := ha.1.keep (Nat.le_of_eq Z.symm) fun b hb _ => K b hb.2.2.2
 exact ⟨S4.at_ hz _ _ _ _, ⟨D.imp fun b _ k => ⟨k.1, k.2.1, k.2.2.1⟩, ho.dc, ho.t.keep fun a ea => K _ (ha.2.1 a ea), ho.ti, ho.s.keep fun a ea => K _ (ha.2.2 a ea), ho.ap⟩, ⟨D, ha.2⟩, (K _ (by omega)).trans h0, S4.below hb (by omega) _ _ _ _, wx⟩
theorem NewS.last {w W W5 : World} {q : At3} {n : Nat} {r : Rn.R} (ho : Own3 W5 W.heap.size q r) (hb : Below W.heap.size W W5) (h : Below w.heap.size w W) (hw : w.heap.size + 1 + 1 ≤ W.heap.size) (hz : zeroR W (w.heap.size + 1)) :
  NewS w (W5.alloc (.cells #[.slice q.A n q.ca, .int .i64 0, .slice q.T n q.ct, .slice q.S 0 q.cs] 41)) W5.heap.size q n r := by
 have hs := hb.size
 have B6 : Below W5.heap.size W5 (W5.alloc (.cells #[.slice q.A n q.ca, .int .i64 0, .slice q.T n q.ct, .slice q.S 0 q.cs] 41)) := (Below.refl _ _).alloc (Nat.le_refl _) _
 refine ⟨heap_alloc_new _ _, (ho.low hw).grew B6, ⟨((ho.low hw).d.imp fun b hl k => (⟨k.1, k.2.1, k.2.2, by omega⟩ : w.heap.size + 1 + 1 ≤ b ∧ Off b q.T ∧ Off b q.S ∧ b ≠ W5.heap.size)).keep B6.size fun b _ hl => B6.block b hl, fun a ea => ?_, fun a ea => ?_⟩, (B6.block _ (Nat.lt_of_lt_of_le (lt_of_block hz) hs)).trans ((hb.block _ (lt_of_block hz)).trans hz), (h.trans (hb.mono h.size)).trans (B6.mono (by have := h.size; omega)), by omega⟩
 ·have h1 := ho.t
  rw [ea] at h1
  have := h1.lt.2
  omega
 ·have h1 := ho.s
  rw [ea] at h1
  have := h1.lt.2
  omega
theorem NewS.mid {w W W5 : World} {X : Nat} {q : At3} {n : Nat} {r : Rn.R} (ho : Own3 W5 W.heap.size q r) (hb : Below W.heap.size W W5) (hX : zeroR W X) (wx : w.heap.size + 1 + 1 ≤ X) (hw : w.heap.size + 1 + 1 ≤ W.heap.size) (h : Below w.heap.size w W) (hz : zeroR W (w.heap.size + 1)) :
  NewS w (S4 W5 X (.slice q.A n q.ca) (.int .i64 0) (.slice q.T n q.ct) (.slice q.S 0 q.cs)) X q n r := by
 have hl := lt_of_block hX
 have hs := hb.size
 have ha := Apart3.of ho hl
 exact NewS.of ((hb.block _ hl).trans hX) (ho.low hw) ⟨ha.1.imp fun b _ k => ⟨Nat.le_trans hw k.1, k.2⟩, ha.2⟩ ((hb.block _ (lt_of_block hz)).trans hz) (h.trans (hb.mono h.size)) wx
set_option maxHeartbeats 2000000 in
theorem new_p (A : Option Addr) (cap : Nat) (d : Df.D) (hf : Fair d) (w : World) (hF : FactsD w) (h : DefIn w w.heap.size A d) : Calls Tryz.prog 60 #[.agg #[.slice A d.length cap]] w (RunG w (Rn.newV d)) := by
 have V : Hid (Rn.newV d = if Df.good d = 0 then (Rn.newS d, 0) else (Rn.r0, Df.good d)) := Lib.hid rfl
 have G0 : Hid (Df.good d = 0 → Df.Ok d) := Lib.hid Df.good_iff.1
 have GD := Lib.hid (fun W (hb : Below w.heap.size w W) => goodD_any A d cap hf W (hF.on hb) (h.on hb))
 have SS : Hid (Rn.newS d = Rn.upd ⟨d, 0, List.replicate d.length Rn.t0, []⟩) := Lib.hid rfl
 generalize Rn.newV d = v at *
 generalize Rn.newS d = r2 at *
 generalize Df.good d = u at *
 obtain ⟨n, hn⟩ : ∃ n, n = d.length := ⟨_, rfl⟩
 have HN := Lib.hid hn
 have HH := Lib.hid h
 have FF := Lib.hid hf
 have n9 : n ≤ 1100 := by rw [hn]; exact hf.1
 rw [← hn] at GD ⊢
 clear hn h hf hF
 obtain ⟨W0, hW0⟩ : ∃ W0, W0 = (w.alloc (.cells #[.slice A n cap] 37)).alloc (.cells #[.slice none 0 0, .int .i64 0, .slice none 0 0, .slice none 0 0] 41) := ⟨_, rfl⟩
 have B0 : Hid (Below w.heap.size w W0) := Lib.hid (by rw [hW0]; exact box2 _ _ _)
 have X0 : Hid (W0.heap[w.heap.size]? = some (.cells #[.slice A n cap] 37 (0, 0))) := Lib.hid (by rw [hW0]; exact box0' _ _ _)
 have Z0 : Hid (zeroR W0 (w.heap.size + 1)) := Lib.hid (by unfold zeroR; rw [hW0]; exact box1 _ _ _)
 have x0 : W0.cell? ⟨w.heap.size, 0, none⟩ = some (.slice A n cap) := by simp [World.cell?, X0.out]
 go_enter Tryz.func60, Tryz.ntmps60
 go_upto_region 1 with (fail)
 rw [← hW0]
 clear hW0
 go_wp2_with fail
 (with_reducible refine (GD.out W0 B0.out).mono ?_); rintro e W1 ⟨rfl, b1⟩
 have B1 : Hid (Below w.heap.size w W1) := Lib.hid (B0.out.trans (b1.out.mono B0.out.size))
 have X1 : Hid (W1.heap[w.heap.size]? = some (.cells #[.slice A n cap] 37 (0, 0))) := Lib.hid ((b1.out.block _ (lt_of_block X0.out)).trans X0.out)
 have Z1 : Hid (zeroR W1 (w.heap.size + 1)) := Lib.hid ((b1.out.block _ (lt_of_block Z0.out)).trans Z0.out)
 clear x0
 by_cases hu : u = 0
 ·have R : Hid (v = (r2, 0)) := Lib.hid (by rw [V.out, if_pos hu])
  have OK := Lib.hid (G0.out hu)
  subst hu
  have x0 : W1.cell? ⟨w.heap.size, 0, none⟩ = some (.slice A n cap) := by simp [World.cell?, X1.out]
  clear V G0
  have CP : Hid (∀ W g, Below w.heap.size w W → W.heap[g]? = some (.cells (madeCells zeroT (n * 4)) 47 (0, 0)) → Calls Tryz.prog 78 #[.agg #[.slice A n cap, .int .i64 0, .slice (some ⟨g, 0, none⟩) n n, .slice none 0 0]] W (CopG W n 0 n 0 ⟨d, 0, List.replicate d.length Rn.t0, []⟩)) := Lib.hid fun W g hb hg => by
   have hr : RunW W (fun _ => True) ⟨A, cap, some ⟨g, 0, none⟩, n, none, 0⟩ ⟨d, 0, List.replicate d.length Rn.t0, []⟩ :=
    ⟨(HH.out.on hb).defO, by rw [← HN.out]; exact tks_made hg, RowO.nil_⟩
   have := copied_w ⟨A, cap, some ⟨g, 0, none⟩, n, none, 0⟩ ⟨d, 0, List.replicate d.length Rn.t0, []⟩ ⟨FF.out.1, fun t ht => (FF.out.2 t ht).1, by rw [List.length_replicate]; exact FF.out.1, Nat.zero_le _, fun x hx => by cases hx⟩ W _ hr
   unfold rv at this
   dsimp only at this
   rw [List.length_replicate, ← HN.out] at this
   exact this.mono fun e w' hq => by
    obtain ⟨q, rfl, h1, h2⟩ := hq
    exact ⟨q, rfl, by rw [← HN.out]; exact h1, h2⟩
  have MK : ∀ W, (Instr.makeSlice 38 (.int .i64 (n : Int)) (.int .i64 (n : Int))).run Tryz.prog W = .ok (.slice (some ⟨W.heap.size, 0, none⟩) n n) (W.alloc (.cells (madeCells zeroT (n * 4)) 47)) := made_R4 n (by omega)
  have C1 := Lib.hid (CP.out (W1.alloc (.cells (madeCells zeroT (n * 4)) 47)).drew W1.heap.size ((B1.out.alloc B1.out.size _).drew) (heap_alloc_new _ _))
  have C2 := Lib.hid (CP.out ((W1.alloc (.cells #[.slice none 0 0, .int .i64 0, .slice none 0 0, .slice none 0 0] 41)).alloc (.cells (madeCells zeroT (n * 4)) 47)).drew (W1.heap.size + 1) (((B1.out.alloc B1.out.size _).alloc (by have := B1.out.size; simp; omega) _).drew) (box1 _ _ _))
  have C3 := Lib.hid (CP.out ((W1.alloc (.cells (madeCells zeroT (n * 4)) 47)).alloc (.cells #[.slice none 0 0, .int .i64 0, .slice none 0 0, .slice none 0 0] 41)).drew W1.heap.size (((B1.out.alloc B1.out.size _).alloc (by have := B1.out.size; simp; omega) _).drew) (box0' _ _ _))
  have ZZ := Lib.hid Z1.out
  have H1 : Hid (Below w.heap.size w (W1.alloc (.cells (madeCells zeroT (n * 4)) 47)).drew) := Lib.hid ((B1.out.alloc B1.out.size _).drew)
  have K1 : Hid ((W1.alloc (.cells (madeCells zeroT (n * 4)) 47)).drew.cell? ⟨w.heap.size, 0, none⟩ = some (.slice A n cap)) := Lib.hid (by have h1 : Below W1.heap.size W1 (W1.alloc (.cells (madeCells zeroT (n * 4)) 47)).drew := ((Below.refl W1.heap.size W1).alloc (Below.refl W1.heap.size W1).size _).drew; exact (h1.cell (block_lt x0)).trans x0)
  have Z1a : Hid (zeroR (W1.alloc (.cells (madeCells zeroT (n * 4)) 47)).drew (w.heap.size + 1)) := Lib.hid (by have h1 : Below W1.heap.size W1 (W1.alloc (.cells (madeCells zeroT (n * 4)) 47)).drew := ((Below.refl W1.heap.size W1).alloc (Below.refl W1.heap.size W1).size _).drew; exact (h1.block _ (lt_of_block ZZ.out)).trans ZZ.out)
  have H0 : Hid (Below w.heap.size w (W1.alloc (.cells #[.slice none 0 0, .int .i64 0, .slice none 0 0, .slice none 0 0] 41)).drew) := Lib.hid ((B1.out.alloc B1.out.size _).drew)
  have K2 : Hid ((W1.alloc (.cells #[.slice none 0 0, .int .i64 0, .slice none 0 0, .slice none 0 0] 41)).drew.cell? ⟨w.heap.size, 0, none⟩ = some (.slice A n cap)) := Lib.hid (by have h1 : Below W1.heap.size W1 (W1.alloc (.cells #[.slice none 0 0, .int .i64 0, .slice none 0 0, .slice none 0 0] 41)).drew := ((Below.refl W1.heap.size W1).alloc (Below.refl W1.heap.size W1).size _).drew; exact (h1.cell (block_lt x0)).trans x0)
  have Z0 : Hid (zeroR (W1.alloc (.cells #[.slice none 0 0, .int .i64 0, .slice none 0 0, .slice none 0 0] 41)).drew (w.heap.size + 1)) := Lib.hid (by have h1 : Below W1.heap.size W1 (W1.alloc (.cells #[.slice none 0 0, .int .i64 0, .slice none 0 0, .slice none 0 0] 41)).drew := ((Below.refl W1.heap.size W1).alloc (Below.refl W1.heap.size W1).size _).drew; exact (h1.block _ (lt_of_block ZZ.out)).trans ZZ.out)
  have H3 : Hid (Below w.heap.size w ((W1.alloc (.cells (madeCells zeroT (n * 4)) 47)).alloc (.cells #[.slice none 0 0, .int .i64 0, .slice none 0 0, .slice none 0 0] 41)).drew) := Lib.hid (((B1.out.alloc B1.out.size _).alloc (by have := B1.out.size; simp; omega) _).drew)
  have K3 : Hid (((W1.alloc (.cells (madeCells zeroT (n * 4)) 47)).alloc (.cells #[.slice none 0 0, .int .i64 0, .slice none 0 0, .slice none 0 0] 41)).drew.cell? ⟨w.heap.size, 0, none⟩ = some (.slice A n cap)) := Lib.hid (by have h1 : Below W1.heap.size W1 ((W1.alloc (.cells (madeCells zeroT (n * 4)) 47)).alloc (.cells #[.slice none 0 0, .int .i64 0, .slice none 0 0, .slice none 0 0] 41)).drew := (((Below.refl W1.heap.size W1).alloc (Below.refl W1.heap.size W1).size _).alloc (by simp) _).drew; exact (h1.cell (block_lt x0)).trans x0)
  have Z3 : Hid (zeroR ((W1.alloc (.cells (madeCells zeroT (n * 4)) 47)).alloc (.cells #[.slice none 0 0, .int .i64 0, .slice none 0 0, .slice none 0 0] 41)).drew (w.heap.size + 1)) := Lib.hid (by have h1 : Below W1.heap.size W1 ((W1.alloc (.cells (madeCells zeroT (n * 4)) 47)).alloc (.cells #[.slice none 0 0, .int .i64 0, .slice none 0 0, .slice none 0 0] 41)).drew := (((Below.refl W1.heap.size W1).alloc (Below.refl W1.heap.size W1).size _).alloc (by simp) _).drew; exact (h1.block _ (lt_of_block ZZ.out)).trans ZZ.out)
  have H2 : Hid (Below w.heap.size w ((W1.alloc (.cells #[.slice none 0 0, .int .i64 0, .slice none 0 0, .slice none 0 0] 41)).alloc (.cells (madeCells zeroT (n * 4)) 47)).drew) := Lib.hid (((B1.out.alloc B1.out.size _).alloc (by have := B1.out.size; simp; omega) _).drew)
  have K4 : Hid (((W1.alloc (.cells #[.slice none 0 0, .int .i64 0, .slice none 0 0, .slice none 0 0] 41)).alloc (.cells (madeCells zeroT (n * 4)) 47)).drew.cell? ⟨w.heap.size, 0, none⟩ = some (.slice A n cap)) := Lib.hid (by have h1 : Below W1.heap.size W1 ((W1.alloc (.cells #[.slice none 0 0, .int .i64 0, .slice none 0 0, .slice none 0 0] 41)).alloc (.cells (madeCells zeroT (n * 4)) 47)).drew := (((Below.refl W1.heap.size W1).alloc (Below.refl W1.heap.size W1).size _).alloc (by simp) _).drew; exact (h1.cell (block_lt x0)).trans x0)
  have Z2 : Hid (zeroR ((W1.alloc (.cells #[.slice none 0 0, .int .i64 0, .slice none 0 0, .slice none 0 0] 41)).alloc (.cells (madeCells zeroT (n * 4)) 47)).drew (w.heap.size + 1)) := Lib.hid (by have h1 : Below W1.heap.size W1 ((W1.alloc (.cells #[.slice none 0 0, .int .i64 0, .slice none 0 0, .slice none 0 0] 41)).alloc (.cells (madeCells zeroT (n * 4)) 47)).drew := (((Below.refl W1.heap.size W1).alloc (Below.refl W1.heap.size W1).size _).alloc (by simp) _).drew; exact (h1.block _ (lt_of_block ZZ.out)).trans ZZ.out)
  have Y2 : Hid (zeroR ((W1.alloc (.cells #[.slice none 0 0, .int .i64 0, .slice none 0 0, .slice none 0 0] 41)).alloc (.cells (madeCells zeroT (n * 4)) 47)).drew W1.heap.size) := Lib.hid (box0' _ _ _)
  have Y3 : Hid (zeroR ((W1.alloc (.cells (madeCells zeroT (n * 4)) 47)).alloc (.cells #[.slice none 0 0, .int .i64 0, .slice none 0 0, .slice none 0 0] 41)).drew (W1.heap.size + 1)) := Lib.hid (box1 _ _ _)
  have P1 : Hid (w.heap.size + 1 + 1 ≤ W1.heap.size) := Lib.hid (by have h1 := lt_of_block Z1.out; omega)
  go_upto_region 4 with (fail)
  go_cut [5] from 12 to 19 (fun pv wx => ∃ (X : Nat) (q : At3), pv = .pointer (some ⟨X, 0, none⟩) ∧ Hid (NewS w wx X q n ⟨d, 0, List.replicate d.length Rn.t0, []⟩))
  case first =>
   refine wp_region_C (fun w' => w'.cell? ⟨w.heap.size, 0, none⟩ = some (.slice A n cap)) 8 (by kernel_rfl) ?_
   have hS0 : (fun w' : World => w'.cell? ⟨w.heap.size, 0, none⟩ = some (.slice A n cap)) W1.drew := x0
   refine wpAnyC_take (i := 0) (oi := ?o1) (v := ?v1) ?hi1 (by kernel_rfl) (by kernel_rfl) (by kernel_rfl) ?hQ1 (by kernel_rfl) (by decide) (by kernel_rfl) (Or.inl ⟨?hg1, ?hy1⟩) (by assumption) ?rest1
   case hi1 => (simp only [List.getElem?_toArray, List.getElem?_cons_zero]; exact rfl)
   case hQ1 => exact fun _ _ _ h => h
   case hg1 => rfl
   case hy1 => (intro w' hSw; (try dsimp only at hSw); go_simp; try with_reducible rfl)
   try simp only [Act.put, List.setIfInBounds_toArray, List.set_cons_zero, List.set_cons_succ]
   refine wpAnyC_take (i := 1) (oi := ?o2) (v := ?v2) ?hi2 (by kernel_rfl) (by kernel_rfl) (by kernel_rfl) ?hQ2 (by kernel_rfl) (by decide) (by kernel_rfl) (Or.inl ⟨?hg2, ?hy2⟩) (by assumption) ?rest2
   case hi2 => (simp only [List.getElem?_toArray, List.getElem?_cons_zero, List.getElem?_cons_succ]; exact rfl)
   case hQ2 => exact fun _ _ _ h => h
   case hg2 => rfl
   case hy2 => (intro w' hSw; (try dsimp only at hSw); go_simp; try with_reducible rfl)
   try simp only [Act.put, List.setIfInBounds_toArray, List.set_cons_zero, List.set_cons_succ]
   refine wpAnyC_take (i := 2) (oi := ?o3) (v := ?v3) ?hi3 (by kernel_rfl) (by kernel_rfl) (by kernel_rfl) ?hQ3 (by kernel_rfl) (by decide) (by kernel_rfl) (Or.inl ⟨?hg3, ?hy3⟩) (by assumption) ?rest3
   case hi3 => (simp only [List.getElem?_toArray, List.getElem?_cons_zero, List.getElem?_cons_succ]; exact rfl)
   case hQ3 => exact fun _ _ _ h => h
   case hg3 => rfl
   case hy3 => (intro w' hSw; (try dsimp only at hSw); go_simp; try with_reducible rfl)
   try simp only [Act.put, List.setIfInBounds_toArray, List.set_cons_zero, List.set_cons_succ]
   refine wpAnyC_take (i := 3) (oi := ?o4) (v := ?v4) ?hi4 (by kernel_rfl) (by kernel_rfl) (by kernel_rfl) ?hQ4 (by kernel_rfl) (by decide) (by kernel_rfl) (Or.inl ⟨?hg4, ?hy4⟩) (by assumption) ?rest4
   case hi4 => (simp only [List.getElem?_toArray, List.getElem?_cons_zero, List.getElem?_cons_succ]; exact rfl)
   case hQ4 => exact fun _ _ _ h => h
   case hg4 => rfl
   case hy4 => (intro w' hSw; (try dsimp only at hSw); go_simp; try with_reducible rfl)
   try simp only [Act.put, List.setIfInBounds_toArray, List.set_cons_zero, List.set_cons_succ]
   refine wpAnyC_two (i := 4) (j := 7) (oi := ?o5) (oj := ?p5) ?hi5 ?hj5 (by kernel_rfl) ?step5 ?more5
   case hi5 => (simp only [List.getElem?_toArray, List.getElem?_cons_zero, List.getElem?_cons_succ]; exact rfl)
   case hj5 => (simp only [List.getElem?_toArray, List.getElem?_cons_zero, List.getElem?_cons_succ]; exact rfl)
   case step5 =>
    intro K' hK
    go_simp
    refine hK.out _ _ ?_ (fun hHeld => ?_)
    ·exact fun _ => K1.out
    clear hK K' hHeld
    try simp only [Act.put, List.setIfInBounds_toArray, List.set_cons_zero, List.set_cons_succ]
    refine wpAnyC_take (i := 5) (oi := ?o6) (v := ?v6) ?hi6 (by kernel_rfl) (by kernel_rfl) (by kernel_rfl) ?hQ6 (by kernel_rfl) (by decide) (by kernel_rfl) (Or.inl ⟨?hg6, ?hy6⟩) (by assumption) ?rest6
    case hi6 => (simp only [List.getElem?_toArray, List.getElem?_cons_zero, List.getElem?_cons_succ]; exact rfl)
    case hQ6 => exact fun _ _ _ h => h
    case hg6 => rfl
    case hy6 => (intro w' hSw; (try dsimp only at hSw); go_simp; try with_reducible rfl)
    try simp only [Act.put, List.setIfInBounds_toArray, List.set_cons_zero, List.set_cons_succ]
    refine wpAnyC_two (i := 6) (j := 7) (oi := ?o7) (oj := ?p7) ?hi7 ?hj7 (by kernel_rfl) ?step7 ?more7
    case hi7 => (simp only [List.getElem?_toArray, List.getElem?_cons_zero, List.getElem?_cons_succ]; exact rfl)
    case hj7 => (simp only [List.getElem?_toArray, List.getElem?_cons_zero, List.getElem?_cons_succ]; exact rfl)
    case step7 =>
     intro K' hK
     (go_simp; go_at_call 78; (with_reducible refine C1.out.mono ?_); rintro e W5 ⟨q, rfl, o5, b5⟩)
     refine hK.out _ _ ?_ (fun hHeld => ?_)
     ·exact fun _ => (b5.out.cell (block_lt K1.out)).trans K1.out
     clear hK K' hHeld
     try simp only [Act.put, List.setIfInBounds_toArray, List.set_cons_zero, List.set_cons_succ]
     have N1 := Lib.hid (NewS.last (w := w) (n := n) o5.out b5.out H1.out (by have := P1.out; simp; omega) Z1a.out)
     refine wpAnyC_one (i := 7) (oi := ?o8) ?hi8 (by kernel_rfl) ?step8
     case hi8 => (simp only [List.getElem?_toArray, List.getElem?_cons_zero, List.getElem?_cons_succ]; exact rfl)
     intro K' hK
     go_simp
     refine hK.out _ _ ?_ (fun hHeld => ?_)
     ·exact fun _ => ((b5.out.alloc b5.out.size _).cell (block_lt K1.out)).trans K1.out
     clear hK K' hHeld
     try simp only [Act.put, List.setIfInBounds_toArray, List.set_cons_zero, List.set_cons_succ]
     obtain ⟨⟨z0, z1, z2, z3⟩, g0, g1, g2, g3⟩ := obj4 (heap_alloc_new W5 (.cells #[.slice none 0 0, .int .i64 0, .slice none 0 0, .slice none 0 0] 41))
     refine wpAnyC_one (i := 8) (oi := ?o9) ?hi9 (by kernel_rfl) ?step9
     case hi9 => (simp only [List.getElem?_toArray, List.getElem?_cons_zero, List.getElem?_cons_succ]; exact rfl)
     intro K' hK
     go_simp
     refine hK.out _ _ ?_ (fun hHeld => ?_)
     ·exact fun h => (by cases h)
     clear hK K' hHeld
     try simp only [Act.put, List.setIfInBounds_toArray, List.set_cons_zero, List.set_cons_succ]
     refine wpAnyC_done (by kernel_rfl) ?_ _
     clear z0 z1 z2 z3 g0 g1 g2 g3
     go_wp2
     go_meet
     exact ⟨_, q, rfl, N1⟩
    case more7 =>
     intro K' hK
     go_simp
     refine hK.out _ _ ?_ (fun hHeld => ?_)
     ·exact fun _ => K3.out
     clear hK K' hHeld
     try simp only [Act.put, List.setIfInBounds_toArray, List.set_cons_zero, List.set_cons_succ]
     refine wpAnyC_one (i := 6) (oi := ?o10) ?hi10 (by kernel_rfl) ?step10
     case hi10 => (simp only [List.getElem?_toArray, List.getElem?_cons_zero, List.getElem?_cons_succ]; exact rfl)
     intro K' hK
     (go_simp; go_at_call 78; (with_reducible refine C3.out.mono ?_); rintro e W5 ⟨q, rfl, o5, b5⟩)
     refine hK.out _ _ ?_ (fun hHeld => ?_)
     ·exact fun _ => (b5.out.cell (block_lt K3.out)).trans K3.out
     clear hK K' hHeld
     try simp only [Act.put, List.setIfInBounds_toArray, List.set_cons_zero, List.set_cons_succ]
     have N3 := Lib.hid (NewS.mid (w := w) (n := n) o5.out b5.out Y3.out (by have := P1.out; omega) (by have := P1.out; simp; omega) H3.out Z3.out)
     obtain ⟨⟨z0, z1, z2, z3⟩, g0, g1, g2, g3⟩ := obj4 ((b5.out.block _ (lt_of_block Y3.out)).trans Y3.out)
     refine wpAnyC_one (i := 8) (oi := ?o11) ?hi11 (by kernel_rfl) ?step11
     case hi11 => (simp only [List.getElem?_toArray, List.getElem?_cons_zero, List.getElem?_cons_succ]; exact rfl)
     intro K' hK
     go_simp
     refine hK.out _ _ ?_ (fun hHeld => ?_)
     ·exact fun h => (by cases h)
     clear hK K' hHeld
     try simp only [Act.put, List.setIfInBounds_toArray, List.set_cons_zero, List.set_cons_succ]
     refine wpAnyC_done (by kernel_rfl) ?_ _
     clear z0 z1 z2 z3 g0 g1 g2 g3
     go_wp2
     go_meet
     exact ⟨_, q, rfl, N3⟩
   case more5 =>
    intro K' hK
    go_simp
    refine hK.out _ _ ?_ (fun hHeld => ?_)
    ·exact fun _ => K2.out
    clear hK K' hHeld
    try simp only [Act.put, List.setIfInBounds_toArray, List.set_cons_zero, List.set_cons_succ]
    refine wpAnyC_one (i := 4) (oi := ?o12) ?hi12 (by kernel_rfl) ?step12
    case hi12 => (simp only [List.getElem?_toArray, List.getElem?_cons_zero, List.getElem?_cons_succ]; exact rfl)
    intro K' hK
    go_simp
    refine hK.out _ _ ?_ (fun hHeld => ?_)
    ·exact fun _ => K4.out
    clear hK K' hHeld
    try simp only [Act.put, List.setIfInBounds_toArray, List.set_cons_zero, List.set_cons_succ]
    refine wpAnyC_take (i := 5) (oi := ?o13) (v := ?v13) ?hi13 (by kernel_rfl) (by kernel_rfl) (by kernel_rfl) ?hQ13 (by kernel_rfl) (by decide) (by kernel_rfl) (Or.inl ⟨?hg13, ?hy13⟩) (by assumption) ?rest13
    case hi13 => (simp only [List.getElem?_toArray, List.getElem?_cons_zero, List.getElem?_cons_succ]; exact rfl)
    case hQ13 => exact fun _ _ _ h => h
    case hg13 => rfl
    case hy13 => (intro w' hSw; (try dsimp only at hSw); go_simp; try with_reducible rfl)
    try simp only [Act.put, List.setIfInBounds_toArray, List.set_cons_zero, List.set_cons_succ]
    refine wpAnyC_one (i := 6) (oi := ?o14) ?hi14 (by kernel_rfl) ?step14
    case hi14 => (simp only [List.getElem?_toArray, List.getElem?_cons_zero, List.getElem?_cons_succ]; exact rfl)
    intro K' hK
    (go_simp; go_at_call 78; (with_reducible refine C2.out.mono ?_); rintro e W5 ⟨q, rfl, o5, b5⟩)
    refine hK.out _ _ ?_ (fun hHeld => ?_)
    ·exact fun _ => (b5.out.cell (block_lt K4.out)).trans K4.out
    clear hK K' hHeld
    try simp only [Act.put, List.setIfInBounds_toArray, List.set_cons_zero, List.set_cons_succ]
    have N2 := Lib.hid (NewS.mid (w := w) (n := n) o5.out b5.out Y2.out (by have := P1.out; omega) (by have := P1.out; simp; omega) H2.out Z2.out)
    obtain ⟨⟨z0, z1, z2, z3⟩, g0, g1, g2, g3⟩ := obj4 ((b5.out.block _ (lt_of_block Y2.out)).trans Y2.out)
    refine wpAnyC_one (i := 8) (oi := ?o15) ?hi15 (by kernel_rfl) ?step15
    case hi15 => (simp only [List.getElem?_toArray, List.getElem?_cons_zero, List.getElem?_cons_succ]; exact rfl)
    intro K' hK
    go_simp
    refine hK.out _ _ ?_ (fun hHeld => ?_)
    ·exact fun h => (by cases h)
    clear hK K' hHeld
    try simp only [Act.put, List.setIfInBounds_toArray, List.set_cons_zero, List.set_cons_succ]
    refine wpAnyC_done (by kernel_rfl) ?_ _
    clear z0 z1 z2 z3 g0 g1 g2 g3
    go_wp2
    go_meet
    exact ⟨_, q, rfl, N2⟩
  case rest =>
   obtain ⟨X, q, rfl, NS⟩ := hcut
   obtain ⟨r0, hr0⟩ : ∃ r0 : Rn.R, r0 = ⟨d, 0, List.replicate d.length Rn.t0, []⟩ := ⟨_, rfl⟩
   rw [← hr0] at SS NS
   have R0 := Lib.hid hr0
   clear hr0 CP C1 C2 C3 MK K1 K2 K3 K4 H0 H1 H2 H3 Z0 Z1a Z2 Z3 Y2 Y3 x0
   have AI : AfterIn r0 := by
    rw [R0.out]
    intro i hi a ha
    show 0 ≤ a ∧ a < ((List.replicate d.length Rn.t0).length : Int)
    rw [List.length_replicate]
    have := (Df.Ok.after OK.out hi).2 a ha
    omega
   have UP := Lib.hid (update_x q r0 X (w.heap.size + 1 + 1) n 0 wc NS.out.ap (by rw [R0.out]; exact ⟨FF.out.1, fun t ht => (FF.out.2 t ht).1, by rw [List.length_replicate]; exact FF.out.1, Nat.zero_le _, fun x hx => by cases hx⟩) AI (by rw [R0.out]; exact HN.out) (by rw [R0.out]; exact List.length_replicate) (by have := OK.out.pos; rw [HN.out]; exact this) (by rw [R0.out]; rfl) (by rw [show r0.st = 0 by rw [R0.out]]; exact NS.out.box) NS.out.own)
   rw [← SS.out] at UP
   clear AI
   go_wp2_with fail
   (with_reducible refine UP.out.mono ?_); rintro e W5 ⟨rfl, hb5, ho5, hy5⟩
   have T0 : Hid (∀ k, k = X ∨ ¬ Off k q.T → w.heap.size + 1 + 1 ≤ k) := Lib.hid fun k hk => by
    rcases hk with rfl | hk
    ·exact NS.out.wx
    ·rcases Nat.lt_or_ge k (w.heap.size + 1 + 1) with h1 | h1
     ·exact absurd (fun a ea e => by have := NS.out.own.t.own a ea; omega) hk
     ·exact h1
   have Z5 : Hid (zeroR W5 (w.heap.size + 1)) := Lib.hid ((hy5.out.block _ (lt_of_block NS.out.zero) fun e => by have := T0.out _ e; omega).trans NS.out.zero)
   have B5 : Hid (Below w.heap.size w W5) := Lib.hid (NS.out.below.trans (hy5.out.below NS.out.below.size fun k hk => by have := T0.out k hk; omega))
   have F5 : Hid (r2.d = d ∧ r2.ts.length = n ∧ r2.sg = []) := Lib.hid (by
    rw [SS.out, R0.out]
    refine ⟨rfl, ?_, rfl⟩
    show (List.zipWith _ d (List.replicate d.length Rn.t0)).length = n
    rw [List.length_zipWith, List.length_replicate, ← HN.out]
    omega)
   obtain ⟨s5, hs5⟩ : ∃ s5, s5 = r2.st := ⟨_, rfl⟩
   rw [← hs5] at hb5
   have S5 := Lib.hid hs5
   clear hs5 UP hy5
   obtain ⟨⟨x0, x1, x2, x3⟩, -⟩ := obj4 hb5.out
   obtain ⟨⟨z0, z1, z2, z3⟩, g0, g1, g2, g3⟩ := obj4 Z5.out
   go_wp2
   rw [S4.lit]
   obtain ⟨⟨d0, d1, d2, d3⟩, -⟩ := obj4 (S4.at_ Z5.out (.slice q.A n q.ca) (.int .i64 s5) (.slice q.T n q.ct) (.slice q.S 0 q.cs))
   have hz := S4.size_ W5 (w.heap.size + 1) (.slice q.A n q.ca) (.int .i64 s5) (.slice q.T n q.ct) (.slice q.S 0 q.cs)
   have A5 : RunO (S4 W5 (w.heap.size + 1) (.slice q.A n q.ca) (.int .i64 s5) (.slice q.T n q.ct) (.slice q.S 0 q.cs)) (since w) q r2 := (ho5.out.runO.keep (Nat.le_of_eq hz.symm) fun b k _ => S4.else_ _ _ _ _ _ _ (by have : w.heap.size + 1 + 1 ≤ b := k; omega)).imp fun b _ k => by
    show w.heap.size ≤ b
    have : w.heap.size + 1 + 1 ≤ b := k
    omega
   have B6 := S4.below B5.out (g := w.heap.size + 1) (by omega) (.slice q.A n q.ca) (.int .i64 s5) (.slice q.T n q.ct) (.slice q.S 0 q.cs)
   refine bodyPost_ret (v := .tuple #[.agg #[.slice q.A n q.ca, .int .i64 s5, .slice q.T n q.ct, .slice q.S 0 q.cs], .int .i64 0]) (by simp [results, Tryz.results60, go_sem, d0, d1, d2, d3]) rfl ?_
   rw [R.out]
   refine ⟨q, ?_, Lib.hid A5, Lib.hid B6⟩
   unfold rv
   dsimp only
   rw [F5.out.1, F5.out.2.1, F5.out.2.2, ← HN.out, S5.out]
   rfl
 ·have R : Hid (v = (Rn.r0, u)) := Lib.hid (by rw [V.out, if_neg hu])
  have hu' : (u != 0) = true := by simpa using hu
  clear G0 V
  obtain ⟨⟨z0, z1, z2, z3⟩, g0, g1, g2, g3⟩ := obj4 Z1.out
  go_wp2
  rw [S4.lit]
  obtain ⟨⟨d0, d1, d2, d3⟩, -⟩ := obj4 (S4.at_ Z1.out (.slice none 0 0) (.int .i64 0) (.slice none 0 0) (.slice none 0 0))
  refine bodyPost_ret (v := .tuple #[.agg #[.slice none 0 0, .int .i64 0, .slice none 0 0, .slice none 0 0], .int .i64 u]) (by simp [results, Tryz.results60, go_sem, d0, d1, d2, d3]) rfl ?_
  rw [R.out]
  exact err_ans u B1.out (by omega)
end Go.Proofs.YtkbekojnmdgdgaaGreatDoor
