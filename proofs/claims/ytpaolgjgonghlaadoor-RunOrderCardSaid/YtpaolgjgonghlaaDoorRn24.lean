/-
  Part 24 of the texts behind the law: RnNew, RnProg, RnBegun, RnAwake, RnRet, RnEndsW, RnOrdK.
-/
import Derived.Test.YtpaolgjgonghlaaDoorRn15
import Derived.Test.YtpaolgjgonghlaaDoorRn20
import Derived.Test.YtpaolgjgonghlaaDoorRn8
import Derived.Deep.CutRange
import Derived.Test.YtpaolgjgonghlaaDoorRn17
import Derived.Test.YtpaolgjgonghlaaDoorRn22
import Derived.Test.YtpaolgjgonghlaaDoorRn7
import Derived.Test.YtpaolgjgonghlaaDoorRn23
import Derived.Test.YtpaolgjgonghlaaDoorRn2
import Derived.Deep.Cut
/-
  Package run: New.
-/
namespace Go.Proofs.YtpaolgjgonghlaaDoor
open Go.RowKit
set_option maxRecDepth 20000
/-- The new run in its box, ahead of its update. -/
structure NewS (w W : World) (X : Nat) (q : At3) (n : Nat) (r : Rn.R) : Prop where
  box : boxR W X q n 0 n 0
  own : Own3 W (w.heap.size + 1 + 1) q r
  ap : Apart3 W (w.heap.size + 1 + 1) X q r.d
  zero : zeroR W (w.heap.size + 1)
  below : Below w.heap.size w W
  wx : w.heap.size + 1 + 1 ≤ X
theorem NewS.of {w W : World} {X : Nat} {q : At3} {n : Nat} {r : Rn.R} (hz : zeroR W X) (ho : Own3 W (w.heap.size + 1 + 1) q r) (ha : Apart3 W (w.heap.size + 1 + 1) X q r.d) (h0 : zeroR W (w.heap.size + 1)) (hb : Below w.heap.size w W) (wx : w.heap.size + 1 + 1 ≤ X) :
    NewS w (S4 W X (.slice q.A n q.ca) (.int .i64 0) (.slice q.T n q.ct) (.slice q.S 0 q.cs)) X q n r := by
  have Z := S4.size_ W X (.slice q.A n q.ca) (.int .i64 0) (.slice q.T n q.ct) (.slice q.S 0 q.cs)
  have K : ∀ b, b ≠ X → (S4 W X (.slice q.A n q.ca) (.int .i64 0) (.slice q.T n q.ct) (.slice q.S 0 q.cs)).heap[b]? = W.heap[b]? := fun b hb => S4.else_ _ _ _ _ _ _ hb
  have D := ha.1.keep (Nat.le_of_eq Z.symm) fun b hb _ => K b hb.2.2.2
  exact ⟨S4.at_ hz _ _ _ _, ⟨D.imp fun b _ k => ⟨k.1, k.2.1, k.2.2.1⟩, ho.dc, ho.t.keep fun a ea => K _ (ha.2.1 a ea), ho.ti, ho.s.keep fun a ea => K _ (ha.2.2 a ea), ho.ap⟩, ⟨D, ha.2⟩, (K _ (by omega)).trans h0, S4.below hb (by omega) _ _ _ _, wx⟩
/-- The box made behind the copy. -/
theorem NewS.last {w W W5 : World} {q : At3} {n : Nat} {r : Rn.R} (ho : Own3 W5 W.heap.size q r) (hb : Below W.heap.size W W5) (h : Below w.heap.size w W) (hw : w.heap.size + 1 + 1 ≤ W.heap.size) (hz : zeroR W (w.heap.size + 1)) :
    NewS w (W5.alloc (.cells #[.slice q.A n q.ca, .int .i64 0, .slice q.T n q.ct, .slice q.S 0 q.cs] 29)) W5.heap.size q n r := by
  have hs := hb.size
  have B6 : Below W5.heap.size W5 (W5.alloc (.cells #[.slice q.A n q.ca, .int .i64 0, .slice q.T n q.ct, .slice q.S 0 q.cs] 29)) := (Below.refl _ _).alloc (Nat.le_refl _) _
  refine ⟨heap_alloc_new _ _, (ho.low hw).grew B6, ⟨((ho.low hw).d.imp fun b hl k => (⟨k.1, k.2.1, k.2.2, by omega⟩ : w.heap.size + 1 + 1 ≤ b ∧ Off b q.T ∧ Off b q.S ∧ b ≠ W5.heap.size)).keep B6.size fun b _ hl => B6.block b hl, fun a ea => ?_, fun a ea => ?_⟩, (B6.block _ (Nat.lt_of_lt_of_le (lt_of_block hz) hs)).trans ((hb.block _ (lt_of_block hz)).trans hz), (h.trans (hb.mono h.size)).trans (B6.mono (by have := h.size; omega)), by omega⟩
  · have h1 := ho.t
    rw [ea] at h1
    have := h1.lt.2
    omega
  · have h1 := ho.s
    rw [ea] at h1
    have := h1.lt.2
    omega
/-- The box made ahead of the copy. -/
theorem NewS.mid {w W W5 : World} {X : Nat} {q : At3} {n : Nat} {r : Rn.R} (ho : Own3 W5 W.heap.size q r) (hb : Below W.heap.size W W5) (hX : zeroR W X) (wx : w.heap.size + 1 + 1 ≤ X) (hw : w.heap.size + 1 + 1 ≤ W.heap.size) (h : Below w.heap.size w W) (hz : zeroR W (w.heap.size + 1)) :
    NewS w (S4 W5 X (.slice q.A n q.ca) (.int .i64 0) (.slice q.T n q.ct) (.slice q.S 0 q.cs)) X q n r := by
  have hl := lt_of_block hX
  have hs := hb.size
  have ha := Apart3.of ho hl
  exact NewS.of ((hb.block _ hl).trans hX) (ho.low hw) ⟨ha.1.imp fun b _ k => ⟨Nat.le_trans hw k.1, k.2⟩, ha.2⟩ ((hb.block _ (lt_of_block hz)).trans hz) (h.trans (hb.mono h.size)) wx
set_option maxHeartbeats 2000000 in
theorem new_p (A : Option Addr) (cap : Nat) (d : Df.D) (hf : Fair d) (w : World) (hF : FactsD w) (h : DefIn w w.heap.size A d) : Calls Tryd.prog 8 #[.agg #[.slice A d.length cap]] w (RunG w (Rn.newV d)) := by
  have V : Hid (Rn.newV d = if Df.good d = 0 then (Rn.newS d, 0) else (Rn.r0, Df.good d)) := Lib.hid rfl
  have G0 : Hid (Df.good d = 0 → Df.Ok d) := Lib.hid Df.good_iff.1
  have GD := Lib.hid (fun W (hb : Below w.heap.size w W) => goodD_any A d cap hf W (hF.on hb) (h.on hb))
  have SS : Hid (Rn.newS d = Rn.upd ⟨d, 0, List.replicate d.length Rn.t0, []⟩) := Lib.hid rfl
  generalize Rn.newV d = v at *
  generalize Rn.newS d = r2 at *
  generalize Df.good d = u at *
  obtain ⟨n, hn⟩ : ∃ n, n = d.length := ⟨_, rfl⟩
  have HN := Lib.hid hn
  have HH := Lib.hid h
  have FF := Lib.hid hf
  have n9 : n ≤ 1100 := by rw [hn]; exact hf.1
  rw [← hn] at GD ⊢
  clear hn h hf hF
  obtain ⟨W0, hW0⟩ : ∃ W0, W0 = (w.alloc (.cells #[.slice A n cap] 25)).alloc (.cells #[.slice none 0 0, .int .i64 0, .slice none 0 0, .slice none 0 0] 29) := ⟨_, rfl⟩
  have B0 : Hid (Below w.heap.size w W0) := Lib.hid (by rw [hW0]; exact box2 _ _ _)
  have X0 : Hid (W0.heap[w.heap.size]? = some (.cells #[.slice A n cap] 25 (0, 0))) := Lib.hid (by rw [hW0]; exact box0' _ _ _)
  have Z0 : Hid (zeroR W0 (w.heap.size + 1)) := Lib.hid (by unfold zeroR; rw [hW0]; exact box1 _ _ _)
  have x0 : W0.cell? ⟨w.heap.size, 0, none⟩ = some (.slice A n cap) := by simp [World.cell?, X0.out]
  go_enter Tryd.func8, Tryd.ntmps8
  go_upto_region 1 with (fail)
  rw [← hW0]
  clear hW0
  go_wp2_with fail
  (with_reducible refine (GD.out W0 B0.out).mono ?_); rintro e W1 ⟨rfl, b1⟩
  have B1 : Hid (Below w.heap.size w W1) := Lib.hid (B0.out.trans (b1.out.mono B0.out.size))
  have X1 : Hid (W1.heap[w.heap.size]? = some (.cells #[.slice A n cap] 25 (0, 0))) := Lib.hid ((b1.out.block _ (lt_of_block X0.out)).trans X0.out)
  have Z1 : Hid (zeroR W1 (w.heap.size + 1)) := Lib.hid ((b1.out.block _ (lt_of_block Z0.out)).trans Z0.out)
  clear x0
  by_cases hu : u = 0
  · have R : Hid (v = (r2, 0)) := Lib.hid (by rw [V.out, if_pos hu])
    have OK := Lib.hid (G0.out hu)
    subst hu
    have x0 : W1.cell? ⟨w.heap.size, 0, none⟩ = some (.slice A n cap) := by simp [World.cell?, X1.out]
    clear V G0
    have CP : Hid (∀ W g, Below w.heap.size w W → W.heap[g]? = some (.cells (madeCells zeroT (n * 4)) 42 (0, 0)) → Calls Tryd.prog 21 #[.agg #[.slice A n cap, .int .i64 0, .slice (some ⟨g, 0, none⟩) n n, .slice none 0 0]] W (CopG W n 0 n 0 ⟨d, 0, List.replicate d.length Rn.t0, []⟩)) := Lib.hid fun W g hb hg => by
      have hr : RunW W (fun _ => True) ⟨A, cap, some ⟨g, 0, none⟩, n, none, 0⟩ ⟨d, 0, List.replicate d.length Rn.t0, []⟩ :=
        ⟨(HH.out.on hb).defO, by rw [← HN.out]; exact tks_made hg, RowO.nil_⟩
      have := copied_w ⟨A, cap, some ⟨g, 0, none⟩, n, none, 0⟩ ⟨d, 0, List.replicate d.length Rn.t0, []⟩ ⟨FF.out.1, fun t ht => (FF.out.2 t ht).1, by rw [List.length_replicate]; exact FF.out.1, Nat.zero_le _, fun x hx => by cases hx⟩ W _ hr
      unfold rv at this
      dsimp only at this
      rw [List.length_replicate, ← HN.out] at this
      exact this.mono fun e w' hq => by
        obtain ⟨q, rfl, h1, h2⟩ := hq
        exact ⟨q, rfl, by rw [← HN.out]; exact h1, h2⟩
    have MK : ∀ W, (Instr.makeSlice 26 (.int .i64 (n : Int)) (.int .i64 (n : Int))).run Tryd.prog W = .ok (.slice (some ⟨W.heap.size, 0, none⟩) n n) (W.alloc (.cells (madeCells zeroT (n * 4)) 42)) := made_R4 n (by omega)
    have C1 := Lib.hid (CP.out (W1.alloc (.cells (madeCells zeroT (n * 4)) 42)).drew W1.heap.size ((B1.out.alloc B1.out.size _).drew) (heap_alloc_new _ _))
    have C2 := Lib.hid (CP.out ((W1.alloc (.cells #[.slice none 0 0, .int .i64 0, .slice none 0 0, .slice none 0 0] 29)).alloc (.cells (madeCells zeroT (n * 4)) 42)).drew (W1.heap.size + 1) (((B1.out.alloc B1.out.size _).alloc (by have := B1.out.size; simp; omega) _).drew) (box1 _ _ _))
    have C3 := Lib.hid (CP.out ((W1.alloc (.cells (madeCells zeroT (n * 4)) 42)).alloc (.cells #[.slice none 0 0, .int .i64 0, .slice none 0 0, .slice none 0 0] 29)).drew W1.heap.size (((B1.out.alloc B1.out.size _).alloc (by have := B1.out.size; simp; omega) _).drew) (box0' _ _ _))
    have ZZ := Lib.hid Z1.out
    have H1 : Hid (Below w.heap.size w (W1.alloc (.cells (madeCells zeroT (n * 4)) 42)).drew) := Lib.hid ((B1.out.alloc B1.out.size _).drew)
    have K1 : Hid ((W1.alloc (.cells (madeCells zeroT (n * 4)) 42)).drew.cell? ⟨w.heap.size, 0, none⟩ = some (.slice A n cap)) := Lib.hid (by have h1 : Below W1.heap.size W1 (W1.alloc (.cells (madeCells zeroT (n * 4)) 42)).drew := ((Below.refl W1.heap.size W1).alloc (Below.refl W1.heap.size W1).size _).drew; exact (h1.cell (block_lt x0)).trans x0)
    have Z1a : Hid (zeroR (W1.alloc (.cells (madeCells zeroT (n * 4)) 42)).drew (w.heap.size + 1)) := Lib.hid (by have h1 : Below W1.heap.size W1 (W1.alloc (.cells (madeCells zeroT (n * 4)) 42)).drew := ((Below.refl W1.heap.size W1).alloc (Below.refl W1.heap.size W1).size _).drew; exact (h1.block _ (lt_of_block ZZ.out)).trans ZZ.out)
    have H0 : Hid (Below w.heap.size w (W1.alloc (.cells #[.slice none 0 0, .int .i64 0, .slice none 0 0, .slice none 0 0] 29)).drew) := Lib.hid ((B1.out.alloc B1.out.size _).drew)
    have K2 : Hid ((W1.alloc (.cells #[.slice none 0 0, .int .i64 0, .slice none 0 0, .slice none 0 0] 29)).drew.cell? ⟨w.heap.size, 0, none⟩ = some (.slice A n cap)) := Lib.hid (by have h1 : Below W1.heap.size W1 (W1.alloc (.cells #[.slice none 0 0, .int .i64 0, .slice none 0 0, .slice none 0 0] 29)).drew := ((Below.refl W1.heap.size W1).alloc (Below.refl W1.heap.size W1).size _).drew; exact (h1.cell (block_lt x0)).trans x0)
    have Z0 : Hid (zeroR (W1.alloc (.cells #[.slice none 0 0, .int .i64 0, .slice none 0 0, .slice none 0 0] 29)).drew (w.heap.size + 1)) := Lib.hid (by have h1 : Below W1.heap.size W1 (W1.alloc (.cells #[.slice none 0 0, .int .i64 0, .slice none 0 0, .slice none 0 0] 29)).drew := ((Below.refl W1.heap.size W1).alloc (Below.refl W1.heap.size W1).size _).drew; exact (h1.block _ (lt_of_block ZZ.out)).trans ZZ.out)
    have H3 : Hid (Below w.heap.size w ((W1.alloc (.cells (madeCells zeroT (n * 4)) 42)).alloc (.cells #[.slice none 0 0, .int .i64 0, .slice none 0 0, .slice none 0 0] 29)).drew) := Lib.hid (((B1.out.alloc B1.out.size _).alloc (by have := B1.out.size; simp; omega) _).drew)
    have K3 : Hid (((W1.alloc (.cells (madeCells zeroT (n * 4)) 42)).alloc (.cells #[.slice none 0 0, .int .i64 0, .slice none 0 0, .slice none 0 0] 29)).drew.cell? ⟨w.heap.size, 0, none⟩ = some (.slice A n cap)) := Lib.hid (by have h1 : Below W1.heap.size W1 ((W1.alloc (.cells (madeCells zeroT (n * 4)) 42)).alloc (.cells #[.slice none 0 0, .int .i64 0, .slice none 0 0, .slice none 0 0] 29)).drew := (((Below.refl W1.heap.size W1).alloc (Below.refl W1.heap.size W1).size _).alloc (by simp) _).drew; exact (h1.cell (block_lt x0)).trans x0)
    have Z3 : Hid (zeroR ((W1.alloc (.cells (madeCells zeroT (n * 4)) 42)).alloc (.cells #[.slice none 0 0, .int .i64 0, .slice none 0 0, .slice none 0 0] 29)).drew (w.heap.size + 1)) := Lib.hid (by have h1 : Below W1.heap.size W1 ((W1.alloc (.cells (madeCells zeroT (n * 4)) 42)).alloc (.cells #[.slice none 0 0, .int .i64 0, .slice none 0 0, .slice none 0 0] 29)).drew := (((Below.refl W1.heap.size W1).alloc (Below.refl W1.heap.size W1).size _).alloc (by simp) _).drew; exact (h1.block _ (lt_of_block ZZ.out)).trans ZZ.out)
    have H2 : Hid (Below w.heap.size w ((W1.alloc (.cells #[.slice none 0 0, .int .i64 0, .slice none 0 0, .slice none 0 0] 29)).alloc (.cells (madeCells zeroT (n * 4)) 42)).drew) := Lib.hid (((B1.out.alloc B1.out.size _).alloc (by have := B1.out.size; simp; omega) _).drew)
    have K4 : Hid (((W1.alloc (.cells #[.slice none 0 0, .int .i64 0, .slice none 0 0, .slice none 0 0] 29)).alloc (.cells (madeCells zeroT (n * 4)) 42)).drew.cell? ⟨w.heap.size, 0, none⟩ = some (.slice A n cap)) := Lib.hid (by have h1 : Below W1.heap.size W1 ((W1.alloc (.cells #[.slice none 0 0, .int .i64 0, .slice none 0 0, .slice none 0 0] 29)).alloc (.cells (madeCells zeroT (n * 4)) 42)).drew := (((Below.refl W1.heap.size W1).alloc (Below.refl W1.heap.size W1).size _).alloc (by simp) _).drew; exact (h1.cell (block_lt x0)).trans x0)
    have Z2 : Hid (zeroR ((W1.alloc (.cells #[.slice none 0 0, .int .i64 0, .slice none 0 0, .slice none 0 0] 29)).alloc (.cells (madeCells zeroT (n * 4)) 42)).drew (w.heap.size + 1)) := Lib.hid (by have h1 : Below W1.heap.size W1 ((W1.alloc (.cells #[.slice none 0 0, .int .i64 0, .slice none 0 0, .slice none 0 0] 29)).alloc (.cells (madeCells zeroT (n * 4)) 42)).drew := (((Below.refl W1.heap.size W1).alloc (Below.refl W1.heap.size W1).size _).alloc (by simp) _).drew; exact (h1.block _ (lt_of_block ZZ.out)).trans ZZ.out)
    have Y2 : Hid (zeroR ((W1.alloc (.cells #[.slice none 0 0, .int .i64 0, .slice none 0 0, .slice none 0 0] 29)).alloc (.cells (madeCells zeroT (n * 4)) 42)).drew W1.heap.size) := Lib.hid (box0' _ _ _)
    have Y3 : Hid (zeroR ((W1.alloc (.cells (madeCells zeroT (n * 4)) 42)).alloc (.cells #[.slice none 0 0, .int .i64 0, .slice none 0 0, .slice none 0 0] 29)).drew (W1.heap.size + 1)) := Lib.hid (box1 _ _ _)
    have P1 : Hid (w.heap.size + 1 + 1 ≤ W1.heap.size) := Lib.hid (by have h1 := lt_of_block Z1.out; omega)
    go_upto_region 4 with (fail)
    go_cut [5] from 12 to 19 (fun pv wx => ∃ (X : Nat) (q : At3), pv = .pointer (some ⟨X, 0, none⟩) ∧ Hid (NewS w wx X q n ⟨d, 0, List.replicate d.length Rn.t0, []⟩))
    case first =>
      refine wp_region_C (fun w' => w'.cell? ⟨w.heap.size, 0, none⟩ = some (.slice A n cap)) 8 (by kernel_rfl) ?_
      have hS0 : (fun w' : World => w'.cell? ⟨w.heap.size, 0, none⟩ = some (.slice A n cap)) W1.drew := x0
      refine wpAnyC_take (i := 0) (oi := ?o1) (v := ?v1) ?hi1 (by kernel_rfl) (by kernel_rfl) (by kernel_rfl) ?hQ1 (by kernel_rfl) (by decide) (by kernel_rfl) (Or.inl ⟨?hg1, ?hy1⟩) (by assumption) ?rest1
      case hi1 => (simp only [List.getElem?_toArray, List.getElem?_cons_zero]; exact rfl)
      case hQ1 => exact fun _ _ _ h => h
      case hg1 => rfl
      case hy1 => (intro w' hSw; (try dsimp only at hSw); go_simp; try with_reducible rfl)
      try simp only [Act.put, List.setIfInBounds_toArray, List.set_cons_zero, List.set_cons_succ]
      refine wpAnyC_take (i := 1) (oi := ?o2) (v := ?v2) ?hi2 (by kernel_rfl) (by kernel_rfl) (by kernel_rfl) ?hQ2 (by kernel_rfl) (by decide) (by kernel_rfl) (Or.inl ⟨?hg2, ?hy2⟩) (by assumption) ?rest2
      case hi2 => (simp only [List.getElem?_toArray, List.getElem?_cons_zero, List.getElem?_cons_succ]; exact rfl)
      case hQ2 => exact fun _ _ _ h => h
      case hg2 => rfl
      case hy2 => (intro w' hSw; (try dsimp only at hSw); go_simp; try with_reducible rfl)
      try simp only [Act.put, List.setIfInBounds_toArray, List.set_cons_zero, List.set_cons_succ]
      refine wpAnyC_take (i := 2) (oi := ?o3) (v := ?v3) ?hi3 (by kernel_rfl) (by kernel_rfl) (by kernel_rfl) ?hQ3 (by kernel_rfl) (by decide) (by kernel_rfl) (Or.inl ⟨?hg3, ?hy3⟩) (by assumption) ?rest3
      case hi3 => (simp only [List.getElem?_toArray, List.getElem?_cons_zero, List.getElem?_cons_succ]; exact rfl)
      case hQ3 => exact fun _ _ _ h => h
      case hg3 => rfl
      case hy3 => (intro w' hSw; (try dsimp only at hSw); go_simp; try with_reducible rfl)
      try simp only [Act.put, List.setIfInBounds_toArray, List.set_cons_zero, List.set_cons_succ]
      refine wpAnyC_take (i := 3) (oi := ?o4) (v := ?v4) ?hi4 (by kernel_rfl) (by kernel_rfl) (by kernel_rfl) ?hQ4 (by kernel_rfl) (by decide) (by kernel_rfl) (Or.inl ⟨?hg4, ?hy4⟩) (by assumption) ?rest4
      case hi4 => (simp only [List.getElem?_toArray, List.getElem?_cons_zero, List.getElem?_cons_succ]; exact rfl)
      case hQ4 => exact fun _ _ _ h => h
      case hg4 => rfl
      case hy4 => (intro w' hSw; (try dsimp only at hSw); go_simp; try with_reducible rfl)
      try simp only [Act.put, List.setIfInBounds_toArray, List.set_cons_zero, List.set_cons_succ]
      refine wpAnyC_two (i := 4) (j := 7) (oi := ?o5) (oj := ?p5) ?hi5 ?hj5 (by kernel_rfl) ?step5 ?more5
      case hi5 => (simp only [List.getElem?_toArray, List.getElem?_cons_zero, List.getElem?_cons_succ]; exact rfl)
      case hj5 => (simp only [List.getElem?_toArray, List.getElem?_cons_zero, List.getElem?_cons_succ]; exact rfl)
      case step5 =>
        intro K' hK
        go_simp
        refine hK.out _ _ ?_ (fun hHeld => ?_)
        · exact fun _ => K1.out
        clear hK K' hHeld
        try simp only [Act.put, List.setIfInBounds_toArray, List.set_cons_zero, List.set_cons_succ]
        refine wpAnyC_take (i := 5) (oi := ?o6) (v := ?v6) ?hi6 (by kernel_rfl) (by kernel_rfl) (by kernel_rfl) ?hQ6 (by kernel_rfl) (by decide) (by kernel_rfl) (Or.inl ⟨?hg6, ?hy6⟩) (by assumption) ?rest6
        case hi6 => (simp only [List.getElem?_toArray, List.getElem?_cons_zero, List.getElem?_cons_succ]; exact rfl)
        case hQ6 => exact fun _ _ _ h => h
        case hg6 => rfl
        case hy6 => (intro w' hSw; (try dsimp only at hSw); go_simp; try with_reducible rfl)
        try simp only [Act.put, List.setIfInBounds_toArray, List.set_cons_zero, List.set_cons_succ]
        refine wpAnyC_two (i := 6) (j := 7) (oi := ?o7) (oj := ?p7) ?hi7 ?hj7 (by kernel_rfl) ?step7 ?more7
        case hi7 => (simp only [List.getElem?_toArray, List.getElem?_cons_zero, List.getElem?_cons_succ]; exact rfl)
        case hj7 => (simp only [List.getElem?_toArray, List.getElem?_cons_zero, List.getElem?_cons_succ]; exact rfl)
        case step7 =>
          intro K' hK
          (go_simp; go_at_call 21; (with_reducible refine C1.out.mono ?_); rintro e W5 ⟨q, rfl, o5, b5⟩)
          refine hK.out _ _ ?_ (fun hHeld => ?_)
          · exact fun _ => (b5.out.cell (block_lt K1.out)).trans K1.out
          clear hK K' hHeld
          try simp only [Act.put, List.setIfInBounds_toArray, List.set_cons_zero, List.set_cons_succ]
          have N1 := Lib.hid (NewS.last (w := w) (n := n) o5.out b5.out H1.out (by have := P1.out; simp; omega) Z1a.out)
          refine wpAnyC_one (i := 7) (oi := ?o8) ?hi8 (by kernel_rfl) ?step8
          case hi8 => (simp only [List.getElem?_toArray, List.getElem?_cons_zero, List.getElem?_cons_succ]; exact rfl)
          intro K' hK
          go_simp
          refine hK.out _ _ ?_ (fun hHeld => ?_)
          · exact fun _ => ((b5.out.alloc b5.out.size _).cell (block_lt K1.out)).trans K1.out
          clear hK K' hHeld
          try simp only [Act.put, List.setIfInBounds_toArray, List.set_cons_zero, List.set_cons_succ]
          obtain ⟨⟨z0, z1, z2, z3⟩, g0, g1, g2, g3⟩ := obj4 (heap_alloc_new W5 (.cells #[.slice none 0 0, .int .i64 0, .slice none 0 0, .slice none 0 0] 29))
          refine wpAnyC_one (i := 8) (oi := ?o9) ?hi9 (by kernel_rfl) ?step9
          case hi9 => (simp only [List.getElem?_toArray, List.getElem?_cons_zero, List.getElem?_cons_succ]; exact rfl)
          intro K' hK
          go_simp
          refine hK.out _ _ ?_ (fun hHeld => ?_)
          · exact fun h => (by cases h)
          clear hK K' hHeld
          try simp only [Act.put, List.setIfInBounds_toArray, List.set_cons_zero, List.set_cons_succ]
          refine wpAnyC_done (by kernel_rfl) ?_ _
          clear z0 z1 z2 z3 g0 g1 g2 g3
          go_wp2
          go_meet
          exact ⟨_, q, rfl, N1⟩
        case more7 =>
          intro K' hK
          go_simp
          refine hK.out _ _ ?_ (fun hHeld => ?_)
          · exact fun _ => K3.out
          clear hK K' hHeld
          try simp only [Act.put, List.setIfInBounds_toArray, List.set_cons_zero, List.set_cons_succ]
          refine wpAnyC_one (i := 6) (oi := ?o10) ?hi10 (by kernel_rfl) ?step10
          case hi10 => (simp only [List.getElem?_toArray, List.getElem?_cons_zero, List.getElem?_cons_succ]; exact rfl)
          intro K' hK
          (go_simp; go_at_call 21; (with_reducible refine C3.out.mono ?_); rintro e W5 ⟨q, rfl, o5, b5⟩)
          refine hK.out _ _ ?_ (fun hHeld => ?_)
          · exact fun _ => (b5.out.cell (block_lt K3.out)).trans K3.out
          clear hK K' hHeld
          try simp only [Act.put, List.setIfInBounds_toArray, List.set_cons_zero, List.set_cons_succ]
          have N3 := Lib.hid (NewS.mid (w := w) (n := n) o5.out b5.out Y3.out (by have := P1.out; omega) (by have := P1.out; simp; omega) H3.out Z3.out)
          obtain ⟨⟨z0, z1, z2, z3⟩, g0, g1, g2, g3⟩ := obj4 ((b5.out.block _ (lt_of_block Y3.out)).trans Y3.out)
          refine wpAnyC_one (i := 8) (oi := ?o11) ?hi11 (by kernel_rfl) ?step11
          case hi11 => (simp only [List.getElem?_toArray, List.getElem?_cons_zero, List.getElem?_cons_succ]; exact rfl)
          intro K' hK
          go_simp
          refine hK.out _ _ ?_ (fun hHeld => ?_)
          · exact fun h => (by cases h)
          clear hK K' hHeld
          try simp only [Act.put, List.setIfInBounds_toArray, List.set_cons_zero, List.set_cons_succ]
          refine wpAnyC_done (by kernel_rfl) ?_ _
          clear z0 z1 z2 z3 g0 g1 g2 g3
          go_wp2
          go_meet
          exact ⟨_, q, rfl, N3⟩
      case more5 =>
        intro K' hK
        go_simp
        refine hK.out _ _ ?_ (fun hHeld => ?_)
        · exact fun _ => K2.out
        clear hK K' hHeld
        try simp only [Act.put, List.setIfInBounds_toArray, List.set_cons_zero, List.set_cons_succ]
        refine wpAnyC_one (i := 4) (oi := ?o12) ?hi12 (by kernel_rfl) ?step12
        case hi12 => (simp only [List.getElem?_toArray, List.getElem?_cons_zero, List.getElem?_cons_succ]; exact rfl)
        intro K' hK
        go_simp
        refine hK.out _ _ ?_ (fun hHeld => ?_)
        · exact fun _ => K4.out
        clear hK K' hHeld
        try simp only [Act.put, List.setIfInBounds_toArray, List.set_cons_zero, List.set_cons_succ]
        refine wpAnyC_take (i := 5) (oi := ?o13) (v := ?v13) ?hi13 (by kernel_rfl) (by kernel_rfl) (by kernel_rfl) ?hQ13 (by kernel_rfl) (by decide) (by kernel_rfl) (Or.inl ⟨?hg13, ?hy13⟩) (by assumption) ?rest13
        case hi13 => (simp only [List.getElem?_toArray, List.getElem?_cons_zero, List.getElem?_cons_succ]; exact rfl)
        case hQ13 => exact fun _ _ _ h => h
        case hg13 => rfl
        case hy13 => (intro w' hSw; (try dsimp only at hSw); go_simp; try with_reducible rfl)
        try simp only [Act.put, List.setIfInBounds_toArray, List.set_cons_zero, List.set_cons_succ]
        refine wpAnyC_one (i := 6) (oi := ?o14) ?hi14 (by kernel_rfl) ?step14
        case hi14 => (simp only [List.getElem?_toArray, List.getElem?_cons_zero, List.getElem?_cons_succ]; exact rfl)
        intro K' hK
        (go_simp; go_at_call 21; (with_reducible refine C2.out.mono ?_); rintro e W5 ⟨q, rfl, o5, b5⟩)
        refine hK.out _ _ ?_ (fun hHeld => ?_)
        · exact fun _ => (b5.out.cell (block_lt K4.out)).trans K4.out
        clear hK K' hHeld
        try simp only [Act.put, List.setIfInBounds_toArray, List.set_cons_zero, List.set_cons_succ]
        have N2 := Lib.hid (NewS.mid (w := w) (n := n) o5.out b5.out Y2.out (by have := P1.out; omega) (by have := P1.out; simp; omega) H2.out Z2.out)
        obtain ⟨⟨z0, z1, z2, z3⟩, g0, g1, g2, g3⟩ := obj4 ((b5.out.block _ (lt_of_block Y2.out)).trans Y2.out)
        refine wpAnyC_one (i := 8) (oi := ?o15) ?hi15 (by kernel_rfl) ?step15
        case hi15 => (simp only [List.getElem?_toArray, List.getElem?_cons_zero, List.getElem?_cons_succ]; exact rfl)
        intro K' hK
        go_simp
        refine hK.out _ _ ?_ (fun hHeld => ?_)
        · exact fun h => (by cases h)
        clear hK K' hHeld
        try simp only [Act.put, List.setIfInBounds_toArray, List.set_cons_zero, List.set_cons_succ]
        refine wpAnyC_done (by kernel_rfl) ?_ _
        clear z0 z1 z2 z3 g0 g1 g2 g3
        go_wp2
        go_meet
        exact ⟨_, q, rfl, N2⟩
    case rest =>
      obtain ⟨X, q, rfl, NS⟩ := hcut
      obtain ⟨r0, hr0⟩ : ∃ r0 : Rn.R, r0 = ⟨d, 0, List.replicate d.length Rn.t0, []⟩ := ⟨_, rfl⟩
      rw [← hr0] at SS NS
      have R0 := Lib.hid hr0
      clear hr0 CP C1 C2 C3 MK K1 K2 K3 K4 H0 H1 H2 H3 Z0 Z1a Z2 Z3 Y2 Y3 x0
      have AI : AfterIn r0 := by
        rw [R0.out]
        intro i hi a ha
        show 0 ≤ a ∧ a < ((List.replicate d.length Rn.t0).length : Int)
        rw [List.length_replicate]
        have := (Df.Ok.after OK.out hi).2 a ha
        omega
      have UP := Lib.hid (update_x q r0 X (w.heap.size + 1 + 1) n 0 wc NS.out.ap (by rw [R0.out]; exact ⟨FF.out.1, fun t ht => (FF.out.2 t ht).1, by rw [List.length_replicate]; exact FF.out.1, Nat.zero_le _, fun x hx => by cases hx⟩) AI (by rw [R0.out]; exact HN.out) (by rw [R0.out]; exact List.length_replicate) (by have := OK.out.pos; rw [HN.out]; exact this) (by rw [R0.out]; rfl) (by rw [show r0.st = 0 by rw [R0.out]]; exact NS.out.box) NS.out.own)
      rw [← SS.out] at UP
      clear AI
      go_wp2_with fail
      (with_reducible refine UP.out.mono ?_); rintro e W5 ⟨rfl, hb5, ho5, hy5⟩
      have T0 : Hid (∀ k, k = X ∨ ¬ Off k q.T → w.heap.size + 1 + 1 ≤ k) := Lib.hid fun k hk => by
        rcases hk with rfl | hk
        · exact NS.out.wx
        · rcases Nat.lt_or_ge k (w.heap.size + 1 + 1) with h1 | h1
          · exact absurd (fun a ea e => by have := NS.out.own.t.own a ea; omega) hk
          · exact h1
      have Z5 : Hid (zeroR W5 (w.heap.size + 1)) := Lib.hid ((hy5.out.block _ (lt_of_block NS.out.zero) fun e => by have := T0.out _ e; omega).trans NS.out.zero)
      have B5 : Hid (Below w.heap.size w W5) := Lib.hid (NS.out.below.trans (hy5.out.below NS.out.below.size fun k hk => by have := T0.out k hk; omega))
      have F5 : Hid (r2.d = d ∧ r2.ts.length = n ∧ r2.sg = []) := Lib.hid (by
        rw [SS.out, R0.out]
        refine ⟨rfl, ?_, rfl⟩
        show (List.zipWith _ d (List.replicate d.length Rn.t0)).length = n
        rw [List.length_zipWith, List.length_replicate, ← HN.out]
        omega)
      obtain ⟨s5, hs5⟩ : ∃ s5, s5 = r2.st := ⟨_, rfl⟩
      rw [← hs5] at hb5
      have S5 := Lib.hid hs5
      clear hs5 UP hy5
      obtain ⟨⟨x0, x1, x2, x3⟩, -⟩ := obj4 hb5.out
      obtain ⟨⟨z0, z1, z2, z3⟩, g0, g1, g2, g3⟩ := obj4 Z5.out
      go_wp2
      rw [S4.lit]
      obtain ⟨⟨d0, d1, d2, d3⟩, -⟩ := obj4 (S4.at_ Z5.out (.slice q.A n q.ca) (.int .i64 s5) (.slice q.T n q.ct) (.slice q.S 0 q.cs))
      have hz := S4.size_ W5 (w.heap.size + 1) (.slice q.A n q.ca) (.int .i64 s5) (.slice q.T n q.ct) (.slice q.S 0 q.cs)
      have A5 : RunO (S4 W5 (w.heap.size + 1) (.slice q.A n q.ca) (.int .i64 s5) (.slice q.T n q.ct) (.slice q.S 0 q.cs)) (since w) q r2 := (ho5.out.runO.keep (Nat.le_of_eq hz.symm) fun b k _ => S4.else_ _ _ _ _ _ _ (by have : w.heap.size + 1 + 1 ≤ b := k; omega)).imp fun b _ k => by
        show w.heap.size ≤ b
        have : w.heap.size + 1 + 1 ≤ b := k
        omega
      have B6 := S4.below B5.out (g := w.heap.size + 1) (by omega) (.slice q.A n q.ca) (.int .i64 s5) (.slice q.T n q.ct) (.slice q.S 0 q.cs)
      refine bodyPost_ret (v := .tuple #[.agg #[.slice q.A n q.ca, .int .i64 s5, .slice q.T n q.ct, .slice q.S 0 q.cs], .int .i64 0]) (by simp [results, Tryd.results8, go_sem, d0, d1, d2, d3]) rfl ?_
      rw [R.out]
      refine ⟨q, ?_, Lib.hid A5, Lib.hid B6⟩
      unfold rv
      dsimp only
      rw [F5.out.1, F5.out.2.1, F5.out.2.2, ← HN.out, S5.out]
      rfl
  · have R : Hid (v = (Rn.r0, u)) := Lib.hid (by rw [V.out, if_neg hu])
    have hu' : (u != 0) = true := by simpa using hu
    clear G0 V
    obtain ⟨⟨z0, z1, z2, z3⟩, g0, g1, g2, g3⟩ := obj4 Z1.out
    go_wp2
    rw [S4.lit]
    obtain ⟨⟨d0, d1, d2, d3⟩, -⟩ := obj4 (S4.at_ Z1.out (.slice none 0 0) (.int .i64 0) (.slice none 0 0) (.slice none 0 0))
    refine bodyPost_ret (v := .tuple #[.agg #[.slice none 0 0, .int .i64 0, .slice none 0 0, .slice none 0 0], .int .i64 u]) (by simp [results, Tryd.results8, go_sem, d0, d1, d2, d3]) rfl ?_
    rw [R.out]
    exact err_ans u B1.out (by omega)
end Go.Proofs.YtpaolgjgonghlaaDoor
/-
  Package run's contracts, all of them: New, Lease, Done, Fail, Tick, Signal, Cancel, Next, Same; def.Parse.
-/
/-
  begun, phases and awake: the laws' own functions.
-/
namespace Go.Proofs.YtpaolgjgonghlaaDoor
open Go.RowKit
set_option maxRecDepth 20000
/-- A text, parsed and begun. -/
def Rn.begunV (t : Tx.T) : Rn.R × Int := if (Df.parse t).2 = 0 then Rn.newV (Df.parse t).1 else (Rn.r0, (Df.parse t).2)
theorem Df.parse_good (t : Tx.T) : (Df.parse t).2 = 0 → Df.Ok (Df.parse t).1 := fun h => by
  have : Df.parse t = ((Df.parse t).1, 0) := by rw [← h]
  exact (Df.parse_back this).1
theorem Df.parse_nil (t : Tx.T) (h : (Df.parse t).2 ≠ 0) : (Df.parse t).1 = [] := Df.parse_bad (t := t) (d := (Df.parse t).1) (e := (Df.parse t).2) rfl h
set_option maxHeartbeats 4000000 in
theorem begun_any (s : ByteArray) (hs : s.size ≤ 140737488355328) (w : World) (hF : FactsD w) : Calls Tryd.prog 9 #[.string s] w (RunG w (Rn.begunV s.data.toList)) := by
  have PA : Hid (∀ W, Below w.heap.size w W → Calls Tryd.prog 18 #[.string s] W (ParseG W (Df.parse s.data.toList))) := Lib.hid fun W hW => parse_any s hs W (hF.on hW)
  have HF := Lib.hid hF
  have EV : Hid (Rn.begunV s.data.toList = if (Df.parse s.data.toList).2 = 0 then Rn.newV (Df.parse s.data.toList).1 else (Rn.r0, (Df.parse s.data.toList).2)) := Lib.hid rfl
  have OK := Lib.hid (Df.parse_good s.data.toList)
  have NI := Lib.hid (Df.parse_nil s.data.toList)
  generalize Rn.begunV s.data.toList = v at *
  generalize Df.parse s.data.toList = q at *
  obtain ⟨d, x⟩ := q
  obtain ⟨r, er⟩ := v
  clear hF hs
  have OLD : Hid (∀ o : Obj, Below w.heap.size w (w.alloc o)) := Lib.hid fun o => (Below.refl _ _).alloc (Nat.le_refl _) o
  go_enter Tryd.func9, Tryd.ntmps9
  go_wp2_with fail
  (with_reducible refine (PA.out _ (OLD.out _)).mono ?_); rintro e w2 ⟨A, cap, rfl, hd, hb⟩
  have O2 : Hid (w2.heap[w.heap.size]? = some (.cells #[.slice none 0 0, .int .i64 0, .slice none 0 0, .slice none 0 0] 29 (0, 0))) := Lib.hid ((hb.out.block _ (by simp)).trans (heap_alloc_new _ _))
  have B2 : Hid (Below w.heap.size w w2) := Lib.hid ((OLD.out _).trans (hb.out.mono (by simp)))
  have HD := hd
  have L2 : Hid (w.heap.size + 1 ≤ w2.heap.size) := Lib.hid (by have := hb.out.size; simpa using this)
  clear hb hd
  by_cases hx : x = 0
  · subst hx
    rw [if_pos rfl] at EV
    have FD := Lib.hid (OK.out rfl).fair
    have B3 : Hid (Below w.heap.size w (w2.alloc (.cells #[.slice A d.length cap] 25))) := Lib.hid (B2.out.alloc B2.out.size _)
    have NW : Hid (Calls Tryd.prog 8 #[.agg #[.slice A d.length cap]] (w2.alloc (.cells #[.slice A d.length cap] 25)) (RunG (w2.alloc (.cells #[.slice A d.length cap] 25)) (r, er))) :=
      Lib.hid (EV.out ▸ new_p A cap d FD.out _ (HF.out.on B3.out) (HD.out.on ((Below.refl _ _).alloc (Nat.le_refl _) _)))
    have O3 : Hid ((w2.alloc (.cells #[.slice A d.length cap] 25)).heap[w.heap.size]? = some (.cells #[.slice none 0 0, .int .i64 0, .slice none 0 0, .slice none 0 0] 29 (0, 0))) := Lib.hid ((Below.heap_alloc _ _ _ (by have := L2.out; omega)).trans O2.out)
    have L3 : Hid (w.heap.size + 1 ≤ (w2.alloc (.cells #[.slice A d.length cap] 25)).heap.size) := Lib.hid (by have := L2.out; simp; omega)
    have W3 : (w2.alloc (.cells #[.slice A d.length cap] 25)).cell? ⟨w2.heap.size, 0, none⟩ = some (.slice A d.length cap) := by simp
    generalize hn : d.length = n at *
    clear OK NI PA FD HD hn O2 L2 B2
    go_upto_region 4 with (fail)
    generalize w2.alloc (.cells #[.slice A n cap] 25) = w3 at *
    go_wp2_with fail
    (with_reducible refine NW.out.mono ?_); rintro e w4 ⟨p, rfl, hr, hb⟩
    have H4 : w4.heap[w.heap.size]? = some (.cells #[.slice none 0 0, .int .i64 0, .slice none 0 0, .slice none 0 0] 29 (0, 0)) := (hb.out.block _ (by have := L3.out; omega)).trans O3.out
    obtain ⟨⟨c0, c1, c2, c3⟩, f0, f1, f2, f3⟩ := obj4 H4
    clear O3 W3 NW HF
    unfold rv
    go_wp2_with fail
    have WE : (((w4.setCell ⟨w.heap.size, 0, none⟩ (.slice p.A r.d.length p.ca)).setCell ⟨w.heap.size, 1, none⟩ (.int .i64 r.st)).setCell ⟨w.heap.size, 2, none⟩ (.slice p.T r.ts.length p.ct)).setCell ⟨w.heap.size, 3, none⟩ (.slice p.S r.sg.length p.cs) = S4 w4 w.heap.size (.slice p.A r.d.length p.ca) (.int .i64 r.st) (.slice p.T r.ts.length p.ct) (.slice p.S r.sg.length p.cs) := rfl
    rw [WE]
    have H5 := S4.at_ H4 (.slice p.A r.d.length p.ca) (.int .i64 r.st) (.slice p.T r.ts.length p.ct) (.slice p.S r.sg.length p.cs)
    have R5 : RunO (S4 w4 w.heap.size (.slice p.A r.d.length p.ca) (.int .i64 r.st) (.slice p.T r.ts.length p.ct) (.slice p.S r.sg.length p.cs)) (since w) p r :=
      (hr.out.keep (by rw [S4.size_]; exact Nat.le_refl _) fun b hb2 _ => S4.else_ _ _ _ _ _ _ (by have := L3.out; unfold since at hb2; omega)).imp fun b _ hb2 => by have := L3.out; unfold since at *; omega
    have B5 : Below w.heap.size w (S4 w4 w.heap.size (.slice p.A r.d.length p.ca) (.int .i64 r.st) (.slice p.T r.ts.length p.ct) (.slice p.S r.sg.length p.cs)) := S4.below (B3.out.trans (hb.out.mono (by have := L3.out; omega))) (Nat.le_refl _) _ _ _ _
    obtain ⟨⟨d0, d1, d2, d3⟩, -⟩ := obj4 H5
    generalize S4 w4 w.heap.size (.slice p.A r.d.length p.ca) (.int .i64 r.st) (.slice p.T r.ts.length p.ct) (.slice p.S r.sg.length p.cs) = w5 at *
    refine bodyPost_ret (v := .tuple #[rv p r, .int .i64 er]) ?_ rfl ⟨p, rfl, Lib.hid R5, Lib.hid B5⟩
    unfold rv
    simp [results, Tryd.results9, go_sem, d0, d1, d2, d3]
  · have hx' : (x != 0) = true := by simpa using hx
    obtain rfl := NI.out hx
    rw [if_neg hx] at EV
    obtain ⟨rfl, rfl⟩ : r = Rn.r0 ∧ er = x := by
      have h1 := EV.out
      injection h1 with h1 h2
      exact ⟨h1, h2⟩
    have HX := Lib.hid hx
    have X3 : Hid ((w2.alloc (.cells #[.slice A 0 cap] 25)).heap[w.heap.size]? = some (.cells #[.slice none 0 0, .int .i64 0, .slice none 0 0, .slice none 0 0] 29 (0, 0))) := Lib.hid ((Below.heap_alloc _ _ _ (by have := L2.out; omega)).trans O2.out)
    have B3 : Hid (Below w.heap.size w (w2.alloc (.cells #[.slice A 0 cap] 25))) := Lib.hid (B2.out.alloc B2.out.size _)
    clear hx OK NI EV O2 B2 HD PA
    go_upto_region 3 with (fail)
    generalize w2.alloc (.cells #[.slice A 0 cap] 25) = w3 at *
    obtain ⟨⟨c0, c1, c2, c3⟩, f0, f1, f2, f3⟩ := obj4 X3.out
    go_wp2_with fail
    have WE : (((w3.setCell ⟨w.heap.size, 0, none⟩ (.slice none 0 0)).setCell ⟨w.heap.size, 1, none⟩ (.int .i64 0)).setCell ⟨w.heap.size, 2, none⟩ (.slice none 0 0)).setCell ⟨w.heap.size, 3, none⟩ (.slice none 0 0) = S4 w3 w.heap.size (.slice none 0 0) (.int .i64 0) (.slice none 0 0) (.slice none 0 0) := rfl
    rw [WE]
    have H5 := S4.at_ X3.out (.slice none 0 0) (.int .i64 0) (.slice none 0 0) (.slice none 0 0)
    have B5 : Below w.heap.size w (S4 w3 w.heap.size (.slice none 0 0) (.int .i64 0) (.slice none 0 0) (.slice none 0 0)) := S4.below B3.out (Nat.le_refl _) _ _ _ _
    obtain ⟨⟨d0, d1, d2, d3⟩, -⟩ := obj4 H5
    generalize S4 w3 w.heap.size (.slice none 0 0) (.int .i64 0) (.slice none 0 0) (.slice none 0 0) = w5 at *
    refine bodyPost_ret (v := .tuple #[rv ⟨none, 0, none, 0, none, 0⟩ Rn.r0, .int .i64 er]) ?_ rfl ⟨_, rfl, Lib.hid (run0_o _ _), Lib.hid B5⟩
    unfold rv Rn.r0
    simp [results, Tryd.results9, go_sem, d0, d1, d2, d3]
/-! ### phases -/
def Rn.phT (ts : List Rn.Tk) : Tx.T := ts.map fun k => UInt8.ofNat (48 + k.ph.toNat)
theorem Rn.phT_next {ts : List Rn.Tk} {k : Nat} {x : Rn.Tk} (h : ts[k]? = some x) : Rn.phT (ts.take (k + 1)) = Rn.phT (ts.take k) ++ [UInt8.ofNat (48 + x.ph.toNat)] := by
  unfold Rn.phT
  rw [List.take_add_one, h, List.map_append]
  rfl
set_option maxHeartbeats 2000000 in
theorem phases_any (p : At3) (r : Rn.R) (w : World) (O : Nat → Prop) (h : RunO w O p r) (hp : ∀ k ∈ r.ts, 0 ≤ k.ph ∧ k.ph < 10) (hl : r.ts.length ≤ 1000) :
    Calls Tryd.prog 17 #[rv p r] w (StrG w (str (Rn.phT r.ts))) := by
  have H1 : Hid (RunO (w.alloc (.cells #[.slice p.A r.d.length p.ca, .int .i64 r.st, .slice p.T r.ts.length p.ct, .slice p.S r.sg.length p.cs] 29)) O p r) := Lib.hid (h.on ((Below.refl _ _).alloc (Nat.le_refl _) _))
  have B1 : Hid (Below w.heap.size w (w.alloc (.cells #[.slice p.A r.d.length p.ca, .int .i64 r.st, .slice p.T r.ts.length p.ct, .slice p.S r.sg.length p.cs] 29))) := Lib.hid ((Below.refl _ _).alloc (Nat.le_refl _) _)
  have X1 : Hid ((w.alloc (.cells #[.slice p.A r.d.length p.ca, .int .i64 r.st, .slice p.T r.ts.length p.ct, .slice p.S r.sg.length p.cs] 29)).heap[w.heap.size]? = some (.cells #[.slice p.A r.d.length p.ca, .int .i64 r.st, .slice p.T r.ts.length p.ct, .slice p.S r.sg.length p.cs] 29 (0, 0))) := Lib.hid (heap_alloc_new _ _)
  have HP := Lib.hid hp
  unfold rv
  have SZ := Lib.hid (show (w.alloc (.cells #[.slice p.A r.d.length p.ca, .int .i64 r.st, .slice p.T r.ts.length p.ct, .slice p.S r.sg.length p.cs] 29)).heap.size = w.heap.size + 1 by simp)
  obtain ⟨n, hn⟩ : ∃ n, n = r.ts.length := ⟨_, rfl⟩
  have HN := Lib.hid hn
  rw [← hn] at hl H1 B1 X1 SZ ⊢
  clear h hp hn
  go_enter Tryd.func17, Tryd.ntmps17
  go_upto_region 1 with (fail)
  generalize w.alloc (.cells #[.slice p.A r.d.length p.ca, .int .i64 r.st, .slice p.T n p.ct, .slice p.S r.sg.length p.cs] 29) = w1 at *
  go_wp2_with fail
  go_loopw [3, 4] (fun sv iv wr => ∃ (k : Nat) (s : ByteArray), k ≤ n ∧ iv = .int .i64 k ∧ sv = .string s ∧ Hid (s = str (Rn.phT (r.ts.take k))) ∧ s.size ≤ 1000 ∧ Below w1.heap.size w1 wr) (fun _ iv _ => n - (intOf iv).toNat)
  case atStart => exact ⟨0, _, Nat.zero_le _, rfl, rfl, Lib.hid rfl, by decide, Below.refl _ _⟩
  case round =>
    obtain ⟨k, s, hk, rfl, rfl, HS, hsz, hb⟩ := hrel
    have BR := Lib.hid hb
    have XR := Lib.hid ((hb.block w.heap.size (by rw [SZ.out]; omega)).trans X1.out)
    obtain ⟨⟨c0, c1, c2, c3⟩, -⟩ := obj4 XR.out
    by_cases hlt : k < n
    · have hlt' : (k : Int) < (n : Int) := by omega
      obtain ⟨b, off, x, hT, -, hx, -, e0, e1, e2, e3⟩ := TksO.at_ (i := k) (H1.out.on hb).t (by rw [← HN.out]; exact hlt)
      rw [hT] at c2
      obtain ⟨z, hz, hz10⟩ : ∃ z : Nat, x.ph = (z : Int) ∧ z < 10 := by
        have := HP.out x (List.mem_of_getElem? hx.out)
        exact ⟨x.ph.toNat, by omega, by omega⟩
      obtain ⟨D, hD⟩ : ∃ D, D = Nu.txt (Lib.decDigits z) := ⟨_, rfl⟩
      have NM : Hid (∀ W, Calls Tryd.prog 30 #[.int .i64 (z : Int)] W fun e w' => e = .returned (.string D) ∧ Below W.heap.size W w') := Lib.hid fun W => hD ▸ num10_small z hz10 W
      have DS : D.size = 1 := by rw [hD, Nu.txt_size, Nu.dec_small hz10]; rfl
      have sum : s.size + D.size ≤ 9223372036854775807 := by omega
      have ADD : Hid (s ++ D = str (Rn.phT (r.ts.take (k + 1)))) := Lib.hid (by
        rw [Rn.phT_next hx.out, HS.out, hD, Nu.dec_small hz10, hz, Int.toNat_natCast]
        exact Nu.txt_app _ _)
      rw [hz] at e0
      have DS' := Lib.hid DS
      have SS := Lib.hid (show (s ++ D).size ≤ 1000 by
        rw [ADD.out]
        show (Rn.phT (r.ts.take (k + 1))).toArray.size ≤ 1000
        unfold Rn.phT
        simp
        omega)
      clear hx hT hD hz hb c0 c1 c3 e1 e2 e3 DS hsz hz10
      go_wp2_with fail
      (with_reducible refine (NM.out _).mono ?_); rintro e w2 ⟨rfl, hb2⟩
      have B2 := Lib.hid (BR.out.trans (hb2.mono BR.out.size))
      clear hb2
      go_wp2
      go_roundw
      case rel => exact ⟨k + 1, _, by omega, by go_num, rfl, ADD, SS.out, B2.out⟩
      case measure => simp [intOf]; omega
    · obtain rfl : n = k := by omega
      clear hb
      go_wp2
      go_ret
      exact ⟨ret_str (by rw [HS.out, HN.out, List.take_length]), Lib.hid (B1.out.trans (BR.out.mono (by rw [SZ.out]; omega)))⟩
end Go.Proofs.YtpaolgjgonghlaaDoor
/-
  awake: what the document tells of two tasks.
-/
namespace Go.Proofs.YtpaolgjgonghlaaDoor
open Go.RowKit
set_option maxRecDepth 20000
theorem Rn.begun_of {t : Tx.T} {d : Df.D} {r : Rn.R} (h : Df.parse t = (d, 0)) (h2 : Rn.newV d = (r, 0)) : Rn.begunV t = (r, 0) := by
  unfold Rn.begunV
  rw [h]
  exact h2
theorem Rn.Inv.ph {r : Rn.R} (h : Rn.Inv r) : ∀ k ∈ r.ts, 0 ≤ k.ph ∧ k.ph < 10 := fun k hk => by
  obtain ⟨i, hi, rfl⟩ := List.getElem_of_mem hk
  have := h.task i (by rw [← h.len]; exact hi)
  rw [List.getD_eq_getElem?_getD, List.getElem?_eq_getElem hi] at this
  exact ⟨this.ph0, by have := this.ph5; simp only [Option.getD_some] at this; omega⟩
theorem Rn.Inv.few {r : Rn.R} (h : Rn.Inv r) : r.ts.length ≤ 16 ∧ r.d.length ≤ 16 ∧ 1 ≤ r.d.length := ⟨by rw [h.len]; exact h.good.n16, h.good.n16, h.good.n1⟩
/-- A run that lies in a box: what the box's cells are. -/
theorem box_new (w : World) (p : At3) (n : Nat) (st : Int) (m k : Nat) (W : World) (h : W = w.alloc (.cells #[.slice p.A n p.ca, .int .i64 st, .slice p.T m p.ct, .slice p.S k p.cs] 29)) :
    W.heap[w.heap.size]? = some (.cells #[.slice p.A n p.ca, .int .i64 st, .slice p.T m p.ct, .slice p.S k p.cs] 29 (0, 0)) := h ▸ heap_alloc_new _ _
set_option maxHeartbeats 4000000 in
theorem awake_any (w : World) (hF : FactsD w) : Calls Tryd.prog 7 #[] w fun e w' => e = .returned (.bool true) ∧ Hid (Below w.heap.size w w') := by
  have BG : Hid (Calls Tryd.prog 9 #[.string { data := #[97, 59, 98, 32, 97, 102, 116, 101, 114, 61, 97] }] w (RunY w Rn.rA 2 0 2 0 0)) :=
    Lib.hid ((begun_any { data := #[97, 59, 98, 32, 97, 102, 116, 101, 114, 61, 97] } (by decide) w hF).mono fun e w' h => h.of (Rn.begun_of Rn.pA Rn.kA) rfl rfl rfl rfl)
  clear hF
  go_enter Tryd.func7, Tryd.ntmps7
  go_wp2_with fail
  (with_reducible refine BG.out.mono ?_); rintro e w2 ⟨p, rfl, hr, hb⟩
  have B3 : Hid (Below w.heap.size w (w2.alloc (.cells #[.slice p.A 2 p.ca, .int .i64 0, .slice p.T 2 p.ct, .slice p.S 0 p.cs] 29))) := Lib.hid (hb.out.alloc hb.out.size _)
  have R3 : Hid (RunO (w2.alloc (.cells #[.slice p.A 2 p.ca, .int .i64 0, .slice p.T 2 p.ct, .slice p.S 0 p.cs] 29)) (since w) p Rn.rA) := Lib.hid (hr.out.on ((Below.refl _ _).alloc (Nat.le_refl _) _))
  have X3 : Hid ((w2.alloc (.cells #[.slice p.A 2 p.ca, .int .i64 0, .slice p.T 2 p.ct, .slice p.S 0 p.cs] 29)).heap[w2.heap.size]? = some (.cells #[.slice p.A 2 p.ca, .int .i64 0, .slice p.T 2 p.ct, .slice p.S 0 p.cs] 29 (0, 0))) := Lib.hid (heap_alloc_new _ _)
  clear hr hb
  go_upto_region 2 with (fail)
  generalize w2.alloc (.cells #[.slice p.A 2 p.ca, .int .i64 0, .slice p.T 2 p.ct, .slice p.S 0 p.cs] 29) = w3 at *
  obtain ⟨⟨c0, c1, c2, c3⟩, -⟩ := obj4 X3.out
  have PH : Hid (Calls Tryd.prog 17 #[.agg #[.slice p.A 2 p.ca, .int .i64 0, .slice p.T 2 p.ct, .slice p.S 0 p.cs]] w3 (StrG w3 { data := #[49, 48] })) := Lib.hid (phases_any p Rn.rA w3 _ R3.out (Rn.Inv.ph Rn.iA) (by decide))
  have SM : Hid (∀ W, Below w3.heap.size w3 W → Calls Tryd.prog 19 #[.agg #[.slice p.A 2 p.ca, .int .i64 0, .slice p.T 2 p.ct, .slice p.S 0 p.cs], .agg #[.slice p.A 2 p.ca, .int .i64 0, .slice p.T 2 p.ct, .slice p.S 0 p.cs]] W fun e w' => e = .returned (.bool true) ∧ Hid (Below W.heap.size W w')) :=
    Lib.hid fun W hW => by
      have := same_p p Rn.rA Rn.iA W _ (R3.out.on hW) p Rn.rA Rn.iA (R3.out.on hW)
      rw [show Rn.sameV Rn.rA Rn.rA = true by unfold Rn.sameV; simp] at this
      exact this
  go_wp2_with fail
  (with_reducible refine PH.out.mono ?_); rintro e w4 ⟨rfl, b4⟩
  have X4 : w4.heap[w2.heap.size]? = some (.cells #[.slice p.A 2 p.ca, .int .i64 0, .slice p.T 2 p.ct, .slice p.S 0 p.cs] 29 (0, 0)) := (b4.out.block _ (lt_of_block X3.out)).trans X3.out
  clear c0 c1 c2 c3
  obtain ⟨⟨c0, c1, c2, c3⟩, -⟩ := obj4 X4
  go_wp2_with fail
  (with_reducible refine (SM.out _ b4.out).mono ?_); rintro e w5 ⟨rfl, b5⟩
  go_wp2
  go_ret
  exact ⟨rfl, Lib.hid (B3.out.trans ((b4.out.trans (b5.out.mono b4.out.size)).mono B3.out.size))⟩
end Go.Proofs.YtpaolgjgonghlaaDoor
/-
  The law RunRetries, walked: a task alone that fails each time.
-/
namespace Go.Proofs.YtpaolgjgonghlaaDoor
open Go.RowKit
set_option maxRecDepth 20000
/-- A run's cells. -/
def rcs (p : At3) (n : Nat) (st : Int) (m k : Nat) : Array Value := #[.slice p.A n p.ca, .int .i64 st, .slice p.T m p.ct, .slice p.S k p.cs]
/-- A run put into a box of its own. -/
theorem box_ok {w2 : World} {O : Nat → Prop} {p : At3} {r : Rn.R} (hr : RunO w2 O p r) (n : Nat) (st : Int) (m k : Nat) :
    RunO (w2.alloc (.cells #[.slice p.A n p.ca, .int .i64 st, .slice p.T m p.ct, .slice p.S k p.cs] 29)) (fun b => O b ∧ b < w2.heap.size) p r ∧
    (w2.alloc (.cells #[.slice p.A n p.ca, .int .i64 st, .slice p.T m p.ct, .slice p.S k p.cs] 29)).heap[w2.heap.size]? = some (.cells #[.slice p.A n p.ca, .int .i64 st, .slice p.T m p.ct, .slice p.S k p.cs] 29 (0, 0)) ∧
    Below w2.heap.size w2 (w2.alloc (.cells #[.slice p.A n p.ca, .int .i64 st, .slice p.T m p.ct, .slice p.S k p.cs] 29)) ∧
    (w2.alloc (.cells #[.slice p.A n p.ca, .int .i64 st, .slice p.T m p.ct, .slice p.S k p.cs] 29)).heap.size = w2.heap.size + 1 :=
  ⟨hr.here.on ((Below.refl _ _).alloc (Nat.le_refl _) _), heap_alloc_new _ _, (Below.refl _ _).alloc (Nat.le_refl _) _, by simp⟩
theorem ret_def (c b : Int) (hc : inI c) (hb : inI b) (w : World) : DefIn (w.alloc (.cells #[.string { data := #[97] }, .slice none 0 0, .int .i64 c, .int .i64 7, .int .i64 b, .string { data := #[] }] 48)) (w.alloc (.cells #[.string { data := #[97] }, .slice none 0 0, .int .i64 c, .int .i64 7, .int .i64 b, .string { data := #[] }] 48)).heap.size (some ⟨w.heap.size, 0, none⟩) (Rn.d1 c b) := by
  refine ⟨fun t ht => ?_, fun _ => ⟨w.heap.size, 0, rfl, by simp, fun i hi => ?_⟩⟩
  · rw [List.mem_singleton.1 ht]
    exact ⟨hc, (by unfold inI; decide : inI 7), hb⟩
  · have hi0 : i = 0 := by simp [Rn.d1] at hi; exact hi
    subst hi0
    refine ⟨none, 0, by simp [Rn.d1]; rfl, by simp [Rn.d1], by simp [Rn.d1], by simp [Rn.d1], by simp [Rn.d1], by simp [Rn.d1]; rfl, ⟨fun i hi => by simp [Rn.d1] at hi, fun h => by simp [Rn.d1] at h⟩, by simp [Rn.d1]⟩
set_option maxHeartbeats 8000000 in
theorem ret_walk (c b : Int) (hc : inI c) (hb : inI b) (w : World) (hF : FactsD w) : Calls Tryd.prog 6 #[.int .i64 c, .int .i64 b] w fun e w' => e = .returned (.bool true) ∧ Hid (Below w.heap.size w w') := by
  have AW := Lib.hid (awake_any w hF)
  have HF := Lib.hid hF
  by_cases hbad : c < 0 ∨ 8 < c ∨ b < 1 ∨ 1000 < b
  · clear hF HF hc hb
    by_cases h1 : c < 0
    · clear hbad
      go_enter Tryd.func6, Tryd.ntmps6
      go_wp2_with fail
      (with_reducible refine AW.out.mono ?_); rintro e w2 ⟨rfl, hb2⟩
      go_wp2
      go_ret
      exact ⟨rfl, hb2⟩
    · by_cases h2 : 8 < c
      · clear hbad
        go_enter Tryd.func6, Tryd.ntmps6
        go_wp2_with fail
        (with_reducible refine AW.out.mono ?_); rintro e w2 ⟨rfl, hb2⟩
        go_wp2
        go_ret
        exact ⟨rfl, hb2⟩
      · by_cases h3 : b < 1
        · clear hbad
          go_enter Tryd.func6, Tryd.ntmps6
          go_wp2_with fail
          (with_reducible refine AW.out.mono ?_); rintro e w2 ⟨rfl, hb2⟩
          go_wp2
          go_ret
          exact ⟨rfl, hb2⟩
        · have h4 : 1000 < b := by omega
          clear hbad
          go_enter Tryd.func6, Tryd.ntmps6
          go_wp2_with fail
          (with_reducible refine AW.out.mono ?_); rintro e w2 ⟨rfl, hb2⟩
          go_wp2
          go_ret
          exact ⟨rfl, hb2⟩
  · have h1 : 0 ≤ c := by omega
    have h2 : c ≤ 8 := by omega
    have h3 : 1 ≤ b := by omega
    have h4 : b ≤ 1000 := by omega
    have OK := Lib.hid (Rn.ok1 h1 h2 h3 h4)
    have HC := Lib.hid hc
    have HB := Lib.hid hb
    clear hbad hc hb hF
    go_enter Tryd.func6, Tryd.ntmps6
    go_wp2_with fail
    (with_reducible refine AW.out.mono ?_); rintro e w2 ⟨rfl, hb2⟩
    have D3 := Lib.hid (ret_def c b HC.out HB.out w2)
    have B3 : Hid (Below w.heap.size w (w2.alloc (.cells #[.string { data := #[97] }, .slice none 0 0, .int .i64 c, .int .i64 7, .int .i64 b, .string { data := #[] }] 48))) := Lib.hid (hb2.out.alloc hb2.out.size _)
    have NW : Hid (Calls Tryd.prog 8 #[.agg #[.slice (some ⟨w2.heap.size, 0, none⟩) 1 1]] (w2.alloc (.cells #[.string { data := #[97] }, .slice none 0 0, .int .i64 c, .int .i64 7, .int .i64 b, .string { data := #[] }] 48)) (RunY (w2.alloc (.cells #[.string { data := #[97] }, .slice none 0 0, .int .i64 c, .int .i64 7, .int .i64 b, .string { data := #[] }] 48)) (Rn.r1 c b ⟨1, 1 - 1, 0, []⟩ 0) 1 0 1 0 0)) :=
      Lib.hid ((new_p _ 1 (Rn.d1 c b) OK.out.fair _ (HF.out.on B3.out) D3.out).mono fun e w' h => h.of (Rn.new1 OK.out) rfl rfl rfl rfl)
    clear hb2
    go_wp2_with fail
    (with_reducible refine NW.out.mono ?_); rintro e w4 ⟨p, rfl, hr, hb4⟩
    obtain ⟨r5, x5, b5, z5⟩ := box_ok hr.out 1 0 1 0
    have R5 := Lib.hid r5
    have X5 := Lib.hid x5
    have B5 := Lib.hid (B3.out.trans ((hb4.out.trans (b5.mono hb4.out.size)).mono B3.out.size))
    have Z5 := Lib.hid z5
    have L4 : Hid (w.heap.size ≤ w4.heap.size) := Lib.hid (Nat.le_trans B3.out.size hb4.out.size)
    clear r5 x5 b5 z5 hr hb4 D3 NW B3
    go_upto_region 6 with (fail)
    generalize w4.alloc (.cells #[.slice p.A 1 p.ca, .int .i64 0, .slice p.T 1 p.ct, .slice p.S 0 p.cs] 29) = w5 at *
    generalize hX : w4.heap.size = X at *
    have RR : Hid (RunO w5 (fun b => b ≠ X) p (Rn.r1 c b ⟨1, 1 - 1, 0, []⟩ 0)) := Lib.hid (R5.out.imp fun k _ hk => by have := hk.2; omega)
    clear R5 AW
    go_wp2_with fail
    go_loopw [7, 8] (fun nv tv wr => ∃ (t now : Int) (p : At3), nv = .int .i64 now ∧ tv = .int .i64 t ∧ 1 ≤ t ∧ t ≤ c + 1 ∧ 1 ≤ now ∧ now ≤ t * 64000 ∧ RunO wr (fun b => b ≠ X) p (Rn.r1 c b ⟨1, t - 1, 0, []⟩ 0) ∧ Hid (Rn.Inv (Rn.r1 c b ⟨1, t - 1, 0, []⟩ 0)) ∧ wr.heap[X]? = some (.cells #[.slice p.A 1 p.ca, .int .i64 0, .slice p.T 1 p.ct, .slice p.S 0 p.cs] 29 (0, 0)) ∧ Below w.heap.size w wr) (fun _ tv _ => (c + 2 - intOf tv).toNat)
    case atStart => exact ⟨1, 1, p, rfl, rfl, by decide, by omega, by decide, by decide, RR.out, Lib.hid (Rn.of_new (Rn.new1 OK.out)), X5.out, B5.out⟩
    case round =>
      obtain ⟨t, now, p, rfl, rfl, t1, t2, n1, n2, hrun, HI, hbox, hbel⟩ := hrel
      have RN := Lib.hid hrun
      have BX := Lib.hid hbox
      have BL := Lib.hid hbel
      clear hrun hbel
      obtain ⟨⟨c0, c1, c2, c3⟩, -⟩ := obj4 hbox
      have now1 : now ≤ 1000000 := by omega
      have LS : Hid (Calls Tryd.prog 10 #[.agg #[.slice p.A 1 p.ca, .int .i64 0, .slice p.T 1 p.ct, .slice p.S 0 p.cs], .int .i64 0, .int .i64 t, .int .i64 now] wr (RunY wr (Rn.r1 c b ⟨2, t, now + 7, []⟩ 0) 1 0 1 0 0)) :=
        Lib.hid ((lease_p p _ HI.out wr _ RN.out 0 t now (by unfold inI; decide) (by unfold inI; omega) (by omega) (by unfold Rn.tickMax; omega)).mono fun e w' h => h.of (Rn.lease1 c b t now) rfl rfl rfl rfl)
      clear hbox
      have I6 := Lib.hid (Rn.of_lease HI.out (by omega) (by unfold Rn.tickMax; omega) (Rn.lease1 c b t now))
      have XL : Hid (X < wr.heap.size) := Lib.hid (lt_of_block BX.out)
      go_wp2_with fail
      (with_reducible refine LS.out.mono ?_); rintro e w6 ⟨q, rfl, hr6, hb6⟩
      obtain ⟨r7, x7, b7, z7⟩ := box_ok hr6.out 1 0 1 0
      have B7 := Lib.hid (hb6.out.trans (b7.mono hb6.out.size))
      have G6 : Hid (wr.heap.size ≤ w6.heap.size) := Lib.hid hb6.out.size
      have R7 := Lib.hid r7
      have Z7 := Lib.hid z7
      clear r7 b7 z7 hr6 hb6 LS c0 c1 c2 c3
      go_upto_region 11 with (fail)
      generalize w6.alloc (.cells #[.slice q.A 1 q.ca, .int .i64 0, .slice q.T 1 q.ct, .slice q.S 0 q.cs] 29) = w7 at *
      generalize hY : w6.heap.size = Y at *
      clear hY
      obtain ⟨⟨c0, c1, c2, c3⟩, -⟩ := obj4 x7
      by_cases hlast : t ≤ c
      · have FL : Hid (Calls Tryd.prog 13 #[.agg #[.slice q.A 1 q.ca, .int .i64 0, .slice q.T 1 q.ct, .slice q.S 0 q.cs], .int .i64 0, .int .i64 t, .int .i64 now] w7 (RunY w7 (Rn.r1 c b ⟨5, t, now + Rn.delay b t, []⟩ 0) 1 0 1 0 0)) :=
          Lib.hid ((fail_p q _ I6.out w7 _ R7.out 0 t now (by unfold inI; decide) (by unfold inI; omega) (by omega) (by unfold Rn.tickMax; omega)).mono fun e w' h => h.of (Rn.rest1 hlast) rfl rfl rfl rfl)
        have I8 := Lib.hid (Rn.of_fail I6.out (by omega) (by unfold Rn.tickMax; omega) (Rn.rest1 (b := b) (u := now + 7) (now := now) hlast))
        obtain ⟨dl1, dl2⟩ := Rn.delay_pos (b := b) (x := t) h3
        go_wp2_with fail
        (with_reducible refine FL.out.mono ?_); rintro e w8 ⟨y, rfl, hr8, hb8⟩
        obtain ⟨r9, x9, b9, z9⟩ := box_ok hr8.out 1 0 1 0
        have B9 := Lib.hid (hb8.out.trans (b9.mono hb8.out.size))
        have G8 : Hid (w7.heap.size ≤ w8.heap.size) := Lib.hid hb8.out.size
        have R9 := Lib.hid r9
        have Z9 := Lib.hid z9
        have X9 := Lib.hid x9
        clear r9 b9 z9 hr8 hb8 FL c0 c1 c2 c3
        go_upto_region 12 with (fail)
        generalize w8.alloc (.cells #[.slice y.A 1 y.ca, .int .i64 0, .slice y.T 1 y.ct, .slice y.S 0 y.cs] 29) = w9 at *
        generalize hU : w8.heap.size = U at *
        clear hU
        obtain ⟨⟨c0, c1, c2, c3⟩, -⟩ := obj4 x9
        generalize hdl : Rn.delay b t = dl at *
        have hne : (t == c + 1) = false := by simp; omega
        have NX : Hid (Calls Tryd.prog 11 #[.agg #[.slice y.A 1 y.ca, .int .i64 0, .slice y.T 1 y.ct, .slice y.S 0 y.cs]] w9 fun e w' => e = .returned (.tuple #[.int .i64 (now + dl), .bool true]) ∧ Hid (Below w9.heap.size w9 w')) :=
          Lib.hid (next_p y _ I8.out w9 _ R9.out)
        go_wp2_with fail
        (with_reducible refine NX.out.mono ?_); rintro e wA ⟨rfl, hbA⟩
        have XA : Hid (wA.heap[U]? = some (.cells #[.slice y.A 1 y.ca, .int .i64 0, .slice y.T 1 y.ct, .slice y.S 0 y.cs] 29 (0, 0))) := Lib.hid ((hbA.out.block _ (lt_of_block X9.out)).trans X9.out)
        have RA := Lib.hid (R9.out.on hbA.out)
        have BA := Lib.hid (B9.out.trans (hbA.out.mono B9.out.size))
        have UA : Hid (U < wA.heap.size) := Lib.hid (lt_of_block XA.out)
        clear hbA NX c0 c1 c2 c3
        obtain ⟨⟨c0, c1, c2, c3⟩, -⟩ := obj4 XA.out
        have TE : Hid (Calls Tryd.prog 14 #[.agg #[.slice y.A 1 y.ca, .int .i64 0, .slice y.T 1 y.ct, .slice y.S 0 y.cs], .int .i64 (now + dl - 1)] wA (RunY1 wA (Rn.r1 c b ⟨5, t, now + dl, []⟩ 0) 1 0 1 0)) :=
          Lib.hid ((tick_p y _ I8.out wA _ RA.out (now + dl - 1) (by omega) (by unfold Rn.tickMax; omega)).mono fun e w' h => h.of (Rn.early1 (by omega)) rfl rfl rfl rfl)
        go_wp2_with fail
        (with_reducible refine TE.out.mono ?_); rintro e wB ⟨z, rfl, hrB, hbB⟩
        obtain ⟨rC, xC, bC, zC⟩ := box_ok hrB.out 1 0 1 0
        have RC : Hid (RunO (wB.alloc (.cells #[.slice z.A 1 z.ca, .int .i64 0, .slice z.T 1 z.ct, .slice z.S 0 z.cs] 29)) (fun _ => True) z (Rn.r1 c b ⟨5, t, now + dl, []⟩ 0)) := Lib.hid (rC.imp fun _ _ _ => trivial)
        have AC : Hid (Below wA.heap.size wA (wB.alloc (.cells #[.slice z.A 1 z.ca, .int .i64 0, .slice z.T 1 z.ct, .slice z.S 0 z.cs] 29))) := Lib.hid (hbB.out.trans (bC.mono hbB.out.size))
        have XC := Lib.hid xC
        have RY := Lib.hid ((RA.out.on AC.out).imp (O' := fun _ => True) fun _ _ _ => trivial)
        have UC : Hid ((wB.alloc (.cells #[.slice z.A 1 z.ca, .int .i64 0, .slice z.T 1 z.ct, .slice z.S 0 z.cs] 29)).heap[U]? = some (.cells #[.slice y.A 1 y.ca, .int .i64 0, .slice y.T 1 y.ct, .slice y.S 0 y.cs] 29 (0, 0))) := Lib.hid ((AC.out.block _ UA.out).trans XA.out)
        clear rC xC bC zC hrB hbB TE c0 c1 c2 c3
        go_upto_region 18 with (fail)
        generalize wB.alloc (.cells #[.slice z.A 1 z.ca, .int .i64 0, .slice z.T 1 z.ct, .slice z.S 0 z.cs] 29) = wC at *
        generalize hV : wB.heap.size = V at *
        clear hV
        obtain ⟨⟨c0, c1, c2, c3⟩, -⟩ := obj4 XC.out
        obtain ⟨⟨e0, e1, e2, e3⟩, -⟩ := obj4 UC.out
        have SM : Hid (Calls Tryd.prog 19 #[.agg #[.slice z.A 1 z.ca, .int .i64 0, .slice z.T 1 z.ct, .slice z.S 0 z.cs], .agg #[.slice y.A 1 y.ca, .int .i64 0, .slice y.T 1 y.ct, .slice y.S 0 y.cs]] wC fun e w' => e = .returned (.bool true) ∧ Hid (Below wC.heap.size wC w')) :=
          Lib.hid (by
            have := same_p z _ I8.out wC _ RC.out y _ I8.out RY.out
            rw [show Rn.sameV (Rn.r1 c b ⟨5, t, now + dl, []⟩ 0) (Rn.r1 c b ⟨5, t, now + dl, []⟩ 0) = true by unfold Rn.sameV; simp] at this
            exact this)
        go_wp2_with fail
        (with_reducible refine SM.out.mono ?_); rintro e wD ⟨rfl, hbD⟩
        have XD : Hid (wD.heap[U]? = some (.cells #[.slice y.A 1 y.ca, .int .i64 0, .slice y.T 1 y.ct, .slice y.S 0 y.cs] 29 (0, 0))) := Lib.hid ((hbD.out.block _ (lt_of_block UC.out)).trans UC.out)
        have RD := Lib.hid (RY.out.on hbD.out)
        have BD : Hid (Below wr.heap.size wr wD) := Lib.hid (B7.out.trans ((BA.out.trans ((AC.out.trans (hbD.out.mono AC.out.size)).mono BA.out.size)).mono B7.out.size))
        clear hbD SM c0 c1 c2 c3 e0 e1 e2 e3
        obtain ⟨⟨c0, c1, c2, c3⟩, -⟩ := obj4 XD.out
        have TD : Hid (Calls Tryd.prog 14 #[.agg #[.slice y.A 1 y.ca, .int .i64 0, .slice y.T 1 y.ct, .slice y.S 0 y.cs], .int .i64 (now + dl)] wD (RunY1 wD (Rn.r1 c b ⟨1, t, 0, []⟩ 0) 1 0 1 0)) :=
          Lib.hid ((tick_p y _ I8.out wD _ RD.out (now + dl) (by omega) (by unfold Rn.tickMax; omega)).mono fun e w' h => h.of (Rn.due1 c b t (now + dl)) rfl rfl rfl rfl)
        have IE : Hid (Rn.Inv (Rn.r1 c b ⟨1, t, 0, []⟩ 0)) := Lib.hid (by
          have := I8.out.tick (now := now + dl) (by omega) (by unfold Rn.tickMax; omega)
          rwa [Rn.due1] at this)
        go_wp2_with fail
        (with_reducible refine TD.out.mono ?_); rintro e wE ⟨v, rfl, hrE, hbE⟩
        have XE : wE.heap[X]? = some (.cells #[.slice p.A 1 p.ca, .int .i64 0, .slice p.T 1 p.ct, .slice p.S 0 p.cs] 29 (0, 0)) := (hbE.out.block _ (Nat.lt_of_lt_of_le XL.out BD.out.size)).trans ((BD.out.block _ XL.out).trans BX.out)
        have BE : Hid (Below wr.heap.size wr wE) := Lib.hid (BD.out.trans (hbE.out.mono BD.out.size))
        have RE : Hid (RunO wE (fun k => k ≠ X) v (Rn.r1 c b ⟨1, t, 0, []⟩ 0)) := Lib.hid (hrE.out.imp fun k _ hk => by have := XL.out; have := BD.out.size; unfold since at hk; omega)
        clear hrE hbE TD c0 c1 c2 c3
        obtain ⟨⟨c0, c1, c2, c3⟩, f0, f1, f2, f3⟩ := obj4 XE
        have WE : (((wE.setCell ⟨X, 0, none⟩ (.slice v.A 1 v.ca)).setCell ⟨X, 1, none⟩ (.int .i64 0)).setCell ⟨X, 2, none⟩ (.slice v.T 1 v.ct)).setCell ⟨X, 3, none⟩ (.slice v.S 0 v.cs) = S4 wE X (.slice v.A 1 v.ca) (.int .i64 0) (.slice v.T 1 v.ct) (.slice v.S 0 v.cs) := rfl
        have XF := Lib.hid (S4.at_ XE (.slice v.A 1 v.ca) (.int .i64 0) (.slice v.T 1 v.ct) (.slice v.S 0 v.cs))
        have RF : Hid (RunO (S4 wE X (.slice v.A 1 v.ca) (.int .i64 0) (.slice v.T 1 v.ct) (.slice v.S 0 v.cs)) (fun k => k ≠ X) v (Rn.r1 c b ⟨1, t, 0, []⟩ 0)) := Lib.hid (RE.out.keep (by rw [S4.size_]; exact Nat.le_refl _) fun k hk _ => S4.else_ _ _ _ _ _ _ hk)
        have BF : Hid (Below w.heap.size w (S4 wE X (.slice v.A 1 v.ca) (.int .i64 0) (.slice v.T 1 v.ct) (.slice v.S 0 v.cs))) := Lib.hid (S4.below (BL.out.trans (BE.out.mono BL.out.size)) (by have := L4.out; omega) _ _ _ _)
        go_wp2
        refine ⟨⟨t + 1, now + dl, v, rfl, rfl, by omega, by omega, by omega, by omega, ?_, ?_, XF.out, BF.out⟩, by simp [intOf]; omega⟩
        · rw [show t + 1 - 1 = t by omega]; exact RF.out
        · rw [show t + 1 - 1 = t by omega]; exact IE
      · have hover : c < t := by omega
        obtain rfl : t = c + 1 := by omega
        have FL : Hid (Calls Tryd.prog 13 #[.agg #[.slice q.A 1 q.ca, .int .i64 0, .slice q.T 1 q.ct, .slice q.S 0 q.cs], .int .i64 0, .int .i64 (c + 1), .int .i64 now] w7 (RunY w7 (Rn.r1 c b ⟨4, c + 1, 0, []⟩ 2) 1 2 1 0 0)) :=
          Lib.hid ((fail_p q _ I6.out w7 _ R7.out 0 (c + 1) now (by unfold inI; decide) (by unfold inI; omega) (by omega) (by unfold Rn.tickMax; omega)).mono fun e w' h => h.of (Rn.over1 hover) rfl rfl rfl rfl)
        go_wp2_with fail
        (with_reducible refine FL.out.mono ?_); rintro e w8 ⟨y, rfl, hr8, hb8⟩
        obtain ⟨r9, x9, b9, z9⟩ := box_ok hr8.out 1 2 1 0
        have B9 := Lib.hid (hb8.out.trans (b9.mono hb8.out.size))
        have X9 := Lib.hid x9
        obtain ⟨bb, off, k, hT, -, hk, -, e0, -⟩ := TksO.at_ (i := 0) r9.t (by simp [Rn.r1])
        have K0 : k = ⟨4, c + 1, 0, []⟩ := by have := hk.out; simpa [Rn.r1] using this.symm
        rw [K0, Nat.zero_mul, Nat.add_zero] at e0
        have HT := Lib.hid hT
        clear r9 b9 z9 hr8 hb8 FL c0 c1 c2 c3 hk K0 hT
        go_upto_region 12 with (fail)
        generalize w8.alloc (.cells #[.slice y.A 1 y.ca, .int .i64 2, .slice y.T 1 y.ct, .slice y.S 0 y.cs] 29) = w9 at *
        generalize hU : w8.heap.size = U at *
        clear hU
        rw [HT.out] at x9
        obtain ⟨⟨c0, c1, c2, c3⟩, -⟩ := obj4 x9
        have BZ : Hid (Below w.heap.size w w9) := Lib.hid (BL.out.trans ((B7.out.trans (B9.out.mono B7.out.size)).mono BL.out.size))
        clear x9
        go_wp2
        go_ret
        exact ⟨rfl, Lib.hid BZ.out⟩
end Go.Proofs.YtpaolgjgonghlaaDoor
/-
  The law RunEnds, walked: leased and done one by one, a run without signals ends.
-/
namespace Go.Proofs.YtpaolgjgonghlaaDoor
open Go.RowKit
set_option maxRecDepth 20000
theorem str_emptyR {t : Tx.T} : str t = { data := #[] } ↔ t = [] := by
  have : ({ data := #[] } : ByteArray) = str [] := rfl
  rw [this, str_inj]
theorem Rn.Inv.st_len {r : Rn.R} (h : Rn.Inv r) {n : Nat} (hn : r.d.length = n) : r.ts.length = n := h.len.trans hn
/-- The last ready task of a first part. -/
def Rn.lastR (ts : List Rn.Tk) (k : Nat) (nx : Int) : Prop := (nx = -1 ∧ ∀ j, j < k → (ts.getD j Rn.t0).ph ≠ 1) ∨ ∃ j : Nat, nx = (j : Int) ∧ j < k ∧ (ts.getD j Rn.t0).ph = 1
set_option maxHeartbeats 16000000 in
theorem ends_walk (s : ByteArray) (hs : s.size ≤ 140737488355328) (w : World) (hF : FactsD w) : Calls Tryd.prog 5 #[.string s] w fun e w' => e = .returned (.bool true) ∧ Hid (Below w.heap.size w w') := by
  have AW := Lib.hid (awake_any w hF)
  have HF := Lib.hid hF
  have PA : Hid (∀ W, Below w.heap.size w W → Calls Tryd.prog 18 #[.string s] W (ParseG W (Df.parse s.data.toList))) := Lib.hid fun W hW => parse_any s hs W (hF.on hW)
  have OK := Lib.hid (Df.parse_good s.data.toList)
  generalize Df.parse s.data.toList = q at *
  obtain ⟨d, x⟩ := q
  clear hF
  go_enter Tryd.func5, Tryd.ntmps5
  go_wp2_with fail
  (with_reducible refine AW.out.mono ?_); rintro e w2 ⟨rfl, hb2⟩
  have PA2 := Lib.hid (PA.out w2 hb2.out)
  go_wp2_with fail
  (with_reducible refine PA2.out.mono ?_); rintro e w3 ⟨A, cap, rfl, hd, hb3⟩
  have B3 := Lib.hid (hb2.out.trans (hb3.out.mono hb2.out.size))
  clear PA2 PA hb2 hb3 AW
  obtain ⟨n, hn⟩ : ∃ n, n = d.length := ⟨_, rfl⟩
  have HN := Lib.hid hn
  have B4 : Hid (Below w.heap.size w (w3.alloc (.cells #[.slice A n cap] 25))) := Lib.hid (B3.out.alloc B3.out.size _)
  have D4 : Hid (DefIn (w3.alloc (.cells #[.slice A n cap] 25)) (w3.alloc (.cells #[.slice A n cap] 25)).heap.size A d) := Lib.hid (hd.out.on ((Below.refl _ _).alloc (Nat.le_refl _) _))
  have X4 : Hid ((w3.alloc (.cells #[.slice A n cap] 25)).heap[w3.heap.size]? = some (.cells #[.slice A n cap] 25 (0, 0))) := Lib.hid (heap_alloc_new _ _)
  have L3 : Hid (w.heap.size ≤ w3.heap.size) := Lib.hid B3.out.size
  rw [← hn]
  clear hd B3 hn
  go_upto_region 4 with (fail)
  generalize w3.alloc (.cells #[.slice A n cap] 25) = w4 at *
  generalize hX : w3.heap.size = X at *
  clear hX
  by_cases hbig : 600 < (s.size : Int)
  · go_wp2
    go_ret
    exact ⟨rfl, B4⟩
  · by_cases hx : x = 0
    · subst hx
      have OKD := Lib.hid (OK.out rfl)
      clear OK
      have c0 : w4.cell? ⟨X, 0, none⟩ = some (.slice A n cap) := by simp [World.cell?, X4.out]
      have n16 := OKD.out.n16
      rw [← HN.out] at n16
      go_wp2_with fail
      go_loopw [5] (fun iv wr => ∃ k : Nat, k ≤ n ∧ iv = .int .i64 k ∧ Hid (∀ j (hj : j < d.length), j < k → d[j].on = []) ∧ wr = w4) (fun iv _ => n - (intOf iv).toNat)
      case atStart => exact ⟨0, Nat.zero_le _, rfl, Lib.hid fun j _ h => by omega, rfl⟩
      case round =>
        obtain ⟨k, hk, rfl, HK, rfl⟩ := hrel
        by_cases hlt : k < n
        · have hlt' : (k : Int) < (n : Int) := by omega
          obtain ⟨b, off, A2, c2, t, hA, -, ht, -, -, -, -, -, -, -, -, e5⟩ := D4.out.at_ (k := k) (by rw [← HN.out]; exact hlt)
          rw [hA] at c0
          have HT : Hid (d[k]'(by rw [← HN.out]; exact hlt) = t) := Lib.hid (by
            have := ht.out
            rw [List.getElem?_eq_getElem (by rw [← HN.out]; exact hlt)] at this
            injection this)
          by_cases ho : t.on = []
          · have E5 : wr.cell? ⟨b, off + k * 6 + 5, none⟩ = some (.string { data := #[] }) := by rw [e5, ho]; rfl
            have KK : Hid (∀ j (hj : j < d.length), j < k + 1 → d[j].on = []) := Lib.hid fun j hj hjk => by
              rcases Nat.lt_or_ge j k with h | h
              · exact HK.out j hj h
              · obtain rfl : j = k := by omega
                rw [HT.out]; exact ho
            clear e5 ht hA ho
            go_wp2
            exact ⟨⟨k + 1, by omega, by go_num, KK, trivial⟩, by simp [intOf]; omega⟩
          · have hne : ¬ str t.on = { data := #[] } := fun e => ho (str_emptyR.1 e)
            have hne1 := bs_nonempty hne
            generalize str t.on = so at *
            clear ht hA hne ho
            go_wp2
            go_ret
            exact ⟨rfl, B4⟩
        · obtain rfl : n = k := by omega
          have HO : Hid (∀ t ∈ d, t.on = []) := Lib.hid fun t ht => by
            obtain ⟨j, hj, rfl⟩ := List.getElem_of_mem ht
            exact HK.out j hj (by rw [HN.out]; exact hj)
          have NW : Hid (Calls Tryd.prog 8 #[.agg #[.slice A n cap]] wr (RunG wr (Rn.newS d, 0))) := Lib.hid (by
            have := new_p A cap d OKD.out.fair wr (HF.out.on B4.out) D4.out
            rw [← HN.out] at this
            have e : Rn.newV d = (Rn.newS d, 0) := by unfold Rn.newV; rw [if_pos (Df.good_iff.2 OKD.out)]
            rwa [e] at this)
          have E0 := Lib.hid (Rn.Ends.new OKD.out)
          generalize Rn.newS d = r at *
          obtain ⟨st, hst⟩ : ∃ st, st = r.st := ⟨_, rfl⟩
          obtain ⟨m, hm⟩ : ∃ m, m = r.sg.length := ⟨_, rfl⟩
          have ST := Lib.hid hst
          have SM := Lib.hid hm
          have NY : Hid (Calls Tryd.prog 8 #[.agg #[.slice A n cap]] wr (RunY wr r n st n m 0)) := Lib.hid (NW.out.mono fun e w' h => h.of rfl (by rw [E0.out.de, HN.out]) hst.symm (by rw [E0.out.inv.len, E0.out.de, HN.out]) hm.symm)
          clear NW hst hm HK
          go_wp2_with fail
          (with_reducible refine NY.out.mono ?_); rintro e w5 ⟨p, rfl, hr, hb5⟩
          obtain ⟨r6, x6, b6, z6⟩ := box_ok hr.out n st n m
          have B6 := Lib.hid (hb5.out.trans (b6.mono hb5.out.size))
          have G5 : Hid (wr.heap.size ≤ w5.heap.size) := Lib.hid hb5.out.size
          have R6 := Lib.hid (r6.imp (O' := fun b => b < w5.heap.size) fun _ _ h => h.2)
          have X6 := Lib.hid x6
          have Z6 := Lib.hid z6
          have XL : Hid (X < wr.heap.size) := Lib.hid (lt_of_block X4.out)
          clear r6 x6 b6 z6 hr hb5 NY
          go_upto_region 12 with (fail)
          generalize w5.alloc (.cells #[.slice p.A n p.ca, .int .i64 st, .slice p.T n p.ct, .slice p.S m p.cs] 29) = w6 at *
          generalize hY : w5.heap.size = Y at *
          clear hY
          have R7 := Lib.hid (R6.out.imp (O' := fun b => b ≠ Y) fun b _ h => by omega)
          have XY : Hid (X < Y) := Lib.hid (by have := XL.out; have := G5.out; omega)
          clear R6
          clear c0
          go_wp2_with fail
          go_loopw [8] (fun iv w' => ∃ (k : Nat) (p : At3) (r : Rn.R) (st : Int) (m : Nat), k ≤ n ∧ iv = .int .i64 k ∧ Hid (Rn.Ends d r k) ∧ Hid (st = r.st) ∧ Hid (m = r.sg.length) ∧ Hid (RunO w' (fun b => b ≠ Y) p r) ∧ w'.heap[Y]? = some (.cells #[.slice p.A n p.ca, .int .i64 st, .slice p.T n p.ct, .slice p.S m p.cs] 29 (0, 0)) ∧ w'.heap[X]? = some (.cells #[.slice A n cap] 25 (0, 0)) ∧ But w6.heap.size Y w6 w') (fun iv _ => n - (intOf iv).toNat)
          case atStart => exact ⟨0, p, r, st, m, Nat.zero_le _, rfl, E0, ST, SM, R7, X6.out, (B6.out.block _ XL.out).trans X4.out, But.refl _ _ _⟩
          case round =>
            obtain ⟨k, p, r, st, m, hk, rfl, EN, ST, SM, RR, hbY, hbX, hbut⟩ := hrel
            have BY := Lib.hid hbY
            have BX := Lib.hid hbX
            have BT := Lib.hid hbut
            clear hbut
            obtain ⟨⟨c0, c1, c2, c3⟩, -⟩ := obj4 hbY
            have c4 : wr.cell? ⟨X, 0, none⟩ = some (.slice A n cap) := by simp [World.cell?, hbX]
            by_cases hlt : k < n
            · have hst : st = 0 := by rw [ST.out]; exact EN.out.live (by rw [← HN.out]; exact hlt)
              subst hst
              have hlt' : (k : Int) < (n : Int) := by omega
              clear hbY hbX
              have LEN : Hid (r.ts.length = n) := Lib.hid (by rw [EN.out.inv.len, EN.out.de, HN.out])
              go_wp2_with fail
              go_loopw [9, 10] (fun nv iv w' => ∃ (i : Nat) (nx : Int), i ≤ n ∧ iv = .int .i64 i ∧ nv = .int .i64 nx ∧ Hid (Rn.lastR r.ts i nx) ∧ w' = wr) (fun _ iv _ => n - (intOf iv).toNat)
              case atStart => exact ⟨0, -1, Nat.zero_le _, rfl, rfl, Lib.hid (.inl ⟨rfl, fun j h => by omega⟩), rfl⟩
              case round =>
                obtain ⟨i, nx, hi, rfl, rfl, HL, rfl⟩ := hrel
                by_cases hlt2 : i < n
                · have hlt2' : (i : Int) < (n : Int) := by omega
                  obtain ⟨b, off, t, hT, -, ht, -, e0, -, -, -⟩ := TksO.at_ (i := i) RR.out.t (by rw [LEN.out]; exact hlt2)
                  rw [hT] at c2
                  have HG : Hid (r.ts.getD i Rn.t0 = t) := Lib.hid (by rw [List.getD_eq_getElem?_getD, ht.out]; rfl)
                  by_cases h1 : t.ph = 1
                  · have NL : Hid (Rn.lastR r.ts (i + 1) (i : Int)) := Lib.hid (.inr ⟨i, rfl, by omega, by rw [HG.out]; exact h1⟩)
                    rw [h1] at e0
                    clear ht hT h1
                    go_wp2
                    exact ⟨⟨i + 1, (i : Int), by omega, by go_num, rfl, NL, trivial⟩, by simp [intOf]; omega⟩
                  · have NL : Hid (Rn.lastR r.ts (i + 1) nx) := Lib.hid (by
                      rcases HL.out with ⟨h2, h3⟩ | ⟨j, h2, h3, h4⟩
                      · refine .inl ⟨h2, fun j hj => ?_⟩
                        rcases Nat.lt_or_ge j i with h | h
                        · exact h3 j h
                        · obtain rfl : j = i := by omega
                          rw [HG.out]; exact h1
                      · exact .inr ⟨j, h2, by omega, h4⟩)
                    have hd1 : (t.ph == 1) = false := by simpa using h1
                    clear ht hT h1
                    go_wp2
                    exact ⟨⟨i + 1, nx, by omega, by go_num, rfl, NL, trivial⟩, by simp [intOf]; omega⟩
                · obtain rfl : n = i := by omega
                  obtain ⟨j, rfl, hj, hph⟩ : ∃ j : Nat, nx = (j : Int) ∧ j < n ∧ (r.ts.getD j Rn.t0).ph = 1 := by
                    rcases HL.out with ⟨-, h3⟩ | h
                    · obtain ⟨i, hi, h4⟩ := EN.out.ready (by rw [← HN.out]; exact hlt) HO.out
                      exact absurd h4 (h3 i (by rw [← LEN.out]; exact hi))
                    · exact h
                  obtain ⟨he, he2, hen⟩ := EN.out.step (by rw [← HN.out]; exact hlt) (by rw [LEN.out]; exact hj) hph
                  have E2 := Lib.hid hen
                  have IX := Lib.hid (EN.out.inv.lease he (by decide) (by decide : (5 : Int) ≤ Rn.tickMax))
                  have hj0 : (j : Int) < 16 := by omega
                  have LV : Hid (Rn.leaseV r (j : Int) 1 5 = (Rn.leaseS r (j : Int) 1 5, 0)) := Lib.hid (by unfold Rn.leaseV; rw [if_pos he])
                  have DV : Hid (Rn.doneV (Rn.leaseS r (j : Int) 1 5) (j : Int) 1 [] = (Rn.doneS (Rn.leaseS r (j : Int) 1 5) (j : Int) 1 [], 0)) := Lib.hid (by unfold Rn.doneV; rw [if_pos he2])
                  have X1 : Hid ((Rn.leaseS r (j : Int) 1 5).d.length = n ∧ (Rn.leaseS r (j : Int) 1 5).st = 0 ∧ (Rn.leaseS r (j : Int) 1 5).ts.length = n ∧ (Rn.leaseS r (j : Int) 1 5).sg.length = m) :=
                    Lib.hid ⟨by show r.d.length = n; rw [EN.out.de, HN.out], ST.out.symm, by show (r.ts.set _ _).length = n; rw [List.length_set, LEN.out], SM.out.symm⟩
                  have Y1 : Hid ((Rn.doneS (Rn.leaseS r (j : Int) 1 5) (j : Int) 1 []).d.length = n ∧ (Rn.doneS (Rn.leaseS r (j : Int) 1 5) (j : Int) 1 []).ts.length = n ∧ (Rn.doneS (Rn.leaseS r (j : Int) 1 5) (j : Int) 1 []).sg.length = m) :=
                    Lib.hid ⟨by rw [E2.out.de, HN.out], by rw [E2.out.inv.len, E2.out.de, HN.out], SM.out.symm⟩
                  generalize Rn.leaseS r (j : Int) 1 5 = x at *
                  generalize Rn.doneS x (j : Int) 1 [] = y at *
                  have LS : Hid (Calls Tryd.prog 10 #[.agg #[.slice p.A n p.ca, .int .i64 0, .slice p.T n p.ct, .slice p.S m p.cs], .int .i64 (j : Int), .int .i64 1, .int .i64 5] wr (RunY wr x n 0 n m 0)) := Lib.hid (by
                    have := lease_p p r EN.out.inv wr _ RR.out (j : Int) 1 5 (by unfold inI; omega) (by unfold inI; decide) (by decide) (by decide)
                    unfold rv at this
                    rw [← ST.out, ← SM.out, LEN.out, EN.out.de, ← HN.out] at this
                    exact this.mono fun e w' h => h.of LV.out X1.out.1 X1.out.2.1 X1.out.2.2.1 X1.out.2.2.2)
                  have YL : Hid (Y < wr.heap.size) := Lib.hid (lt_of_block BY.out)
                  clear he he2 hen hph HL
                  go_wp2_with fail
                  (with_reducible refine LS.out.mono ?_); rintro e w8 ⟨q, rfl, hr8, hb8⟩
                  obtain ⟨r9, x9, b9, z9⟩ := box_ok hr8.out n 0 n m
                  have B9 := Lib.hid (hb8.out.trans (b9.mono hb8.out.size))
                  have R9 := Lib.hid r9
                  have X9 := Lib.hid x9
                  clear r9 x9 b9 z9 hr8 hb8 LS c0 c1 c2 c3 c4
                  go_upto_region 26 with (fail)
                  generalize w8.alloc (.cells #[.slice q.A n q.ca, .int .i64 0, .slice q.T n q.ct, .slice q.S m q.cs] 29) = w9 at *
                  generalize hU : w8.heap.size = U at *
                  clear hU
                  obtain ⟨⟨c0, c1, c2, c3⟩, -⟩ := obj4 X9.out
                  obtain ⟨st', hst'⟩ : ∃ st', st' = y.st := ⟨_, rfl⟩
                  have ST' := Lib.hid hst'
                  have DN : Hid (Calls Tryd.prog 12 #[.agg #[.slice q.A n q.ca, .int .i64 0, .slice q.T n q.ct, .slice q.S m q.cs], .int .i64 (j : Int), .int .i64 1, .string { data := #[] }] w9 (RunY w9 y n st' n m 0)) := Lib.hid (by
                    have := done_p q x IX.out w9 _ R9.out (j : Int) 1 { data := #[] } (by unfold inI; omega) (by unfold inI; decide) (by decide)
                    unfold rv at this
                    rw [X1.out.1, X1.out.2.1, X1.out.2.2.1, X1.out.2.2.2] at this
                    exact this.mono fun e w' h => h.of DV.out Y1.out.1 ST'.out.symm Y1.out.2.1 Y1.out.2.2)
                  clear hst'
                  go_wp2_with fail
                  (with_reducible refine DN.out.mono ?_); rintro e wA ⟨v, rfl, hrA, hbA⟩
                  obtain ⟨rB, xB, bB, zB⟩ := box_ok hrA.out n st' n m
                  have BB := Lib.hid (B9.out.trans ((hbA.out.trans (bB.mono hbA.out.size)).mono B9.out.size))
                  have GA : Hid (wr.heap.size ≤ w9.heap.size) := Lib.hid B9.out.size
                  have RB := Lib.hid (rB.imp (O' := fun b => b ≠ Y) fun b _ h => by have := YL.out; have := GA.out; have := h.1; unfold since at this; omega)
                  have XB := Lib.hid xB
                  clear rB xB bB zB hrA hbA DN c0 c1 c2 c3
                  go_upto_region 27 with (fail)
                  generalize wA.alloc (.cells #[.slice v.A n v.ca, .int .i64 st', .slice v.T n v.ct, .slice v.S m v.cs] 29) = wB at *
                  generalize hV : wA.heap.size = V at *
                  clear hV
                  obtain ⟨⟨c0, c1, c2, c3⟩, -⟩ := obj4 XB.out
                  have YB : wB.heap[Y]? = some (.cells #[.slice p.A n p.ca, .int .i64 0, .slice p.T n p.ct, .slice p.S m p.cs] 29 (0, 0)) := (BB.out.block _ YL.out).trans BY.out
                  obtain ⟨⟨e0, e1, e2, e3⟩, f0, f1, f2, f3⟩ := obj4 YB
                  have WE : (((wB.setCell ⟨Y, 0, none⟩ (.slice v.A n v.ca)).setCell ⟨Y, 1, none⟩ (.int .i64 st')).setCell ⟨Y, 2, none⟩ (.slice v.T n v.ct)).setCell ⟨Y, 3, none⟩ (.slice v.S m v.cs) = S4 wB Y (.slice v.A n v.ca) (.int .i64 st') (.slice v.T n v.ct) (.slice v.S m v.cs) := rfl
                  have YC := Lib.hid (S4.at_ YB (.slice v.A n v.ca) (.int .i64 st') (.slice v.T n v.ct) (.slice v.S m v.cs))
                  have RC : Hid (RunO (S4 wB Y (.slice v.A n v.ca) (.int .i64 st') (.slice v.T n v.ct) (.slice v.S m v.cs)) (fun b => b ≠ Y) v y) := Lib.hid (RB.out.keep (by rw [S4.size_]; exact Nat.le_refl _) fun k hk _ => S4.else_ _ _ _ _ _ _ hk)
                  have XC : Hid ((S4 wB Y (.slice v.A n v.ca) (.int .i64 st') (.slice v.T n v.ct) (.slice v.S m v.cs)).heap[X]? = some (.cells #[.slice A n cap] 25 (0, 0))) := Lib.hid ((S4.else_ _ _ _ _ _ _ (by have := XY.out; omega)).trans ((BB.out.block _ (lt_of_block BX.out)).trans BX.out))
                  have BC : Hid (But w6.heap.size Y w6 (S4 wB Y (.slice v.A n v.ca) (.int .i64 st') (.slice v.T n v.ct) (.slice v.S m v.cs))) := Lib.hid (by
                    refine (BT.out.trans (But.of (BB.out.mono BT.out.size))).trans ?_
                    exact ((But.set _ Y 0 _ _).trans (But.set _ Y 1 _ _)).trans ((But.set _ Y 2 _ _).trans (But.set _ Y 3 _ _)))
                  go_wp2
                  exact ⟨⟨k + 1, v, y, st', m, by omega, by go_num, E2, ST', Lib.hid Y1.out.2.2.symm, RC, YC.out, XC.out, BC.out⟩, by simp [intOf]; omega⟩
            · obtain rfl : n = k := by omega
              have ST1 : st = 1 := by rw [ST.out]; exact Rn.Ends.end_ (HN.out ▸ EN.out)
              subst ST1
              clear hbY hbX
              go_wp2
              go_ret
              exact ⟨rfl, Lib.hid (B4.out.trans ((B6.out.trans (BT.out.below B6.out.size (by have := G5.out; omega))).mono B4.out.size))⟩
    · have hx' : (x == 0) = false := by simpa using hx
      go_wp2
      go_ret
      exact ⟨rfl, B4⟩
end Go.Proofs.YtpaolgjgonghlaaDoor
/-
  What each call answers, as RunOrder wants it: where there is no error the run stands and nothing has fallen back.
-/
namespace Go.Proofs.YtpaolgjgonghlaaDoor
open Go.RowKit
namespace Rn
def Next (r : R) (v : R × Int) : Prop := v.2 = 0 → Inv v.1 ∧ Mono r v.1
theorem lease_next {r : R} (h : Inv r) {a x now : Int} (h0 : 0 ≤ now) (h1 : now ≤ tickMax) : Next r (leaseV r a x now) := fun he => by
  unfold leaseV at he ⊢
  split
  · next hg => exact ⟨h.lease hg h0 h1, h.mono_lease hg⟩
  · next hg => rw [if_neg hg] at he; exact absurd he hg
theorem done_next {r : R} (h : Inv r) {a x : Int} {s : Tx.T} (hs : s.length ≤ 140737488355328) : Next r (doneV r a x s) := fun he => by
  unfold doneV at he ⊢
  split
  · next hg => exact ⟨h.done hg s hs, h.mono_done hg s⟩
  · next hg => rw [if_neg hg] at he; exact absurd he hg
theorem fail_next {r : R} (h : Inv r) {a x now : Int} (h0 : 0 ≤ now) (h1 : now ≤ tickMax) : Next r (failV r a x now) := fun he => by
  unfold failV at he ⊢
  split
  · next hg =>
    obtain ⟨k1, k2, _⟩ := heldE_ok hg
    exact ⟨h.fail hg h0 h1, h.mono_fails k1 k2⟩
  · next hg => rw [if_neg hg] at he; exact absurd he hg
theorem sig_next {r : R} (h : Inv r) {s : Tx.T} : Next r (sigV r s) := fun he => by
  unfold sigV at he ⊢
  split
  · next hg => exact ⟨h.sig hg, h.mono_sig s⟩
  · next hg => rw [if_neg hg] at he; exact absurd he hg
theorem tick_next {r : R} (h : Inv r) {now : Int} (h0 : 0 ≤ now) (h1 : now ≤ tickMax) : Next r (tickS r now, 0) := fun _ => ⟨h.tick h0 h1, h.mono_tick h0 h1⟩
end Rn
/-- Behind the switch: the run x stands in the box V, error er; all else is as it was in w7. -/
structure Swi (w7 : World) (V : Nat) (r : Rn.R) (er : Int) (q : At3) (x : Rn.R) (nx : Nat) (sx : Int) (tx mx : Nat) (wx : World) : Prop where
  next : Rn.Next r (x, er)
  hn : nx = x.d.length
  hs : sx = x.st
  ht : tx = x.ts.length
  hm : mx = x.sg.length
  at_ : RunO wx (fun b => V < b) q x
  box : wx.heap[V]? = some (.cells #[.slice q.A nx q.ca, .int .i64 sx, .slice q.T tx q.ct, .slice q.S mx q.cs] 29 (0, 0))
  but : But w7.heap.size V w7 wx
theorem Swi.mk_ {w7 w8 : World} {V : Nat} {r : Rn.R} {er : Int} {q : At3} {x : Rn.R} {n m k : Nat} {st : Int} (h1 : Rn.Next r (x, er)) (hn : n = x.d.length) (hs : st = x.st) (hm : m = x.ts.length) (hk : k = x.sg.length) (hr : RunO w8 (since w7) q x) (hb : Below w7.heap.size w7 w8) (hV : V < w7.heap.size)
    {a b c d : Value} (hx : w7.heap[V]? = some (.cells #[a, b, c, d] 29 (0, 0))) : Swi w7 V r er q x n st m k (S4 w8 V (.slice q.A n q.ca) (.int .i64 st) (.slice q.T m q.ct) (.slice q.S k q.cs)) := by
  have h8 : w8.heap[V]? = some (.cells #[a, b, c, d] 29 (0, 0)) := (hb.block _ hV).trans hx
  refine ⟨h1, hn, hs, hm, hk, ?_, S4.at_ h8 _ _ _ _, ?_⟩
  · exact (hr.keep (by rw [S4.size_]; exact Nat.le_refl _) fun b hb2 _ => S4.else_ _ _ _ _ _ _ (by unfold since at hb2; omega)).imp fun b _ hb2 => by unfold since at hb2; omega
  · exact (But.of hb).trans (((But.set _ V 0 _ _).trans (But.set _ V 1 _ _)).trans ((But.set _ V 2 _ _).trans (But.set _ V 3 _ _)))
theorem Swi.drewN {w7 wx : World} {V : Nat} {r : Rn.R} {er : Int} {q : At3} {x : Rn.R} {n m k : Nat} {st : Int} (h : Swi w7 V r er q x n st m k wx) (j : Nat) : Swi w7 V r er q x n st m k (wx.drewN j) :=
  ⟨h.next, h.hn, h.hs, h.ht, h.hm, h.at_.keep (Nat.le_refl _) fun _ _ _ => rfl, h.box, h.but.drewN j⟩
end Go.Proofs.YtpaolgjgonghlaaDoor
