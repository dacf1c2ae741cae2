/-
  The reference's Set: the timer dropped, its place looked for, put in between.
-/
import Derived.Test.YtaieoneilljagaaWhRefDrop
import Derived.Test.YtaieoneilljagaaWhLess
import Derived.Deep.CutRange
import Derived.Deep.CutBlock
import Derived.Deep.RegionHeld
namespace Go.Proofs.Ytaieoneilljagaa
open Go.RowKit

theorem Wh.take_at {p : Wh.T → Bool} : ∀ {l : List Wh.T} {k : Nat}, k ≤ l.length → (∀ i (hi : i < l.length), i < k → p l[i] = true) → (∀ a, l[k]? = some a → p a = false) → l.takeWhile p = l.take k ∧ l.dropWhile p = l.drop k
  | [], k, _, _, _ => by simp
  | a :: l, 0, _, _, h => by
    have := h a rfl
    rw [List.takeWhile_cons, List.dropWhile_cons, this]
    simp
  | a :: l, k + 1, hk, hb, h => by
    have h0 := hb 0 (by simp) (by omega)
    rw [List.getElem_cons_zero] at h0
    obtain ⟨e1, e2⟩ := Wh.take_at (p := p) (l := l) (k := k) (by simpa using hk) (fun i hi hik => by
      have := hb (i + 1) (by simpa using hi) (by omega)
      simpa using this) (fun a ha => h a (by simpa using ha))
    rw [List.takeWhile_cons, List.dropWhile_cons, h0]
    simp [e1, e2]
theorem Wh.ins_at {x : Wh.T} {l : List Wh.T} {k : Nat} (hk : k ≤ l.length) (h1 : ∀ i (hi : i < l.length), i < k → Wh.less l[i] x = true) (h2 : ∀ a, l[k]? = some a → Wh.less a x = false) : Wh.ins x l = l.take k ++ x :: l.drop k := by
  obtain ⟨e1, e2⟩ := Wh.take_at (p := fun a => Wh.less a x) hk h1 h2
  unfold Wh.ins
  rw [e1, e2]
theorem Wh.ins_len (x : Wh.T) (l : List Wh.T) : (Wh.ins x l).length = l.length + 1 := by
  unfold Wh.ins
  have := congrArg List.length (List.takeWhile_append_dropWhile (p := fun a => Wh.less a x) (l := l))
  rw [List.length_append] at this ⊢
  rw [List.length_cons]
  omega
theorem Wh.del_len (run task : Int) (l : List Wh.T) : (Wh.del run task l).length ≤ l.length := List.length_filter_le _ _
theorem lit_src (w : World) (run task at_ : Int) : SrcW (w.alloc (.cells #[.int .i64 run, .int .i64 task, .int .i64 at_] 39)) (w.alloc (.cells #[.int .i64 run, .int .i64 task, .int .i64 at_] 39)).heap.size (some ⟨w.heap.size, 0, none⟩) (flatW [⟨run, task, at_⟩]) :=
  SrcW.of (World.ownsRow_lit (base := w.heap.size) (size := 3) (e := 39) w #[.int .i64 run, .int .i64 task, .int .i64 at_] 1 (Nat.le_refl _) (by decide) rfl)
theorem lit_keep {w w' : World} {B Z R : Nat} {ys : List Value} (h : SrcW w B (some ⟨Z, 0, none⟩) ys) (hg : w.grownBy w' (Value.slice (some ⟨R, 0, none⟩) 0 0).ownBlock) (hz : Z < w.heap.size) (hne : Z ≠ R) : SrcW w' B (some ⟨Z, 0, none⟩) ys := by
  rcases h with h | ⟨b, off, e, hlt, hc⟩
  · exact .inl h
  · have hb : b = Z := by injection e with e; injection e with e1 e2; exact e1.symm
    refine .inr ⟨b, off, e, hlt, fun j u hu => (World.cell?_of_block (w := w) (hg.block b (by omega) fun he => ?_)).trans (hc j u hu)⟩
    have : some b = some R := he
    injection this with this
    omega
theorem ownsRow_alloc {w : World} {base n size : Nat} {e : TypeId} {A : Option Addr} {cap : Nat} {xs : List Value} (h : w.ownsRow base e size (.slice A n cap) n xs) (o : Obj) : (w.alloc o).ownsRow base e size (.slice A n cap) n xs :=
  ownsRow_keep h fun a ha => by
    subst ha
    exact Below.heap_alloc _ _ _ (World.ownsRow.lt h a.block (by simp [Value.ownBlock])).2
set_option maxRecDepth 20000 in
set_option maxHeartbeats 4000000 in
theorem refSet_any (g : Nat) (O : Nat → Prop) (s : Wh.S) (run task at_ : Int) (w : World) (h : RW w g O s) (hI : Wh.Inv s) (hx : Wh.T.ok ⟨run, task, at_⟩) (hn : s.l.length ≤ 999999) :
    Calls Try.prog 15 #[.pointer (some ⟨g, 0, none⟩), .int .i64 run, .int .i64 task, .int .i64 at_] w fun e w' => e = .returned (.int .i64 (Wh.setE s at_)) ∧ ∃ O2, RW w' g O2 (Wh.setS s run task at_) ∧ Step O O2 w w' ∧ ∀ j, O j → O2 j := by
  have H := Lib.hid h
  by_cases hbad : 1099511627776 < at_ ∨ at_ ≤ s.now
  · have E1 : Hid (Wh.setE s at_ = 1) := Lib.hid (by unfold Wh.setE; rw [if_pos hbad])
    have E2 : Hid (Wh.setS s run task at_ = s) := Lib.hid (by unfold Wh.setS; rw [if_pos hbad])
    by_cases hgt : 1099511627776 < at_
    · clear h hI hbad hx hn
      go_enter Try.func15, Try.ntmps15
      go_wp2
      go_ret
      rw [E1.out, E2.out]
      exact ⟨rfl, O, H.out, Step.refl _ _, fun _ h => h⟩
    · have hle : at_ ≤ s.now := hbad.resolve_left hgt
      have hd : decide (1099511627776 < at_) = false := decide_eq_false hgt
      obtain ⟨A, cap, h1, hcap, h3⟩ := h.obj
      obtain ⟨⟨x0, x1⟩, f0, f1⟩ := obW h1
      clear h hI hbad hgt hx hn h1 hcap h3 x1 f0 f1
      go_enter Try.func15, Try.ntmps15
      go_wp2
      go_ret
      rw [E1.out, E2.out]
      exact ⟨rfl, O, H.out, Step.refl _ _, fun _ h => h⟩
  · have E1 : Hid (Wh.setE s at_ = 0) := Lib.hid (by unfold Wh.setE; rw [if_neg hbad])
    obtain ⟨s1, hs1⟩ : ∃ s1, s1 = Wh.dropS s run task := ⟨_, rfl⟩
    have E2 : Hid (Wh.setS s run task at_ = ⟨s1.now, Wh.ins ⟨run, task, at_⟩ s1.l⟩) := Lib.hid (by unfold Wh.setS; rw [if_neg hbad, hs1]; rfl)
    have N1 : s1.l.length ≤ 999999 := by rw [hs1]; exact Nat.le_trans (Wh.del_len _ _ _) hn
    have DR := Lib.hid (refDrop_any g O s run task w h hI)
    rw [← hs1] at DR
    have hd1 : decide (1099511627776 < at_) = false := decide_eq_false (by omega)
    have hd2 : decide (at_ ≤ s.now) = false := decide_eq_false (by omega)
    obtain ⟨A', cap', h1, hcap, h3⟩ := h.obj
    obtain ⟨⟨x0, x1⟩, f0, f1⟩ := obW h1
    have OKX := Lib.hid hx
    clear h hI hbad hx hn h1 hcap h3 x1 f0 f1 hs1
    go_enter Try.func15, Try.ntmps15
    go_wp2_with fail
    (with_reducible refine DR.out.mono ?_); rintro e w1 ⟨rfl, O1, R1, ST1, SUB1⟩
    have R1 := Lib.hid R1
    have ST1 := Lib.hid ST1
    have SUB1 := Lib.hid SUB1
    clear x0 hd1 hd2 DR
    have B12 : Hid (Below w1.heap.size w1 (w1.alloc (.cells #[.int .i64 run, .int .i64 task, .int .i64 at_] 39))) := Lib.hid ((Below.refl _ _).alloc (Nat.le_refl _) _)
    have PL : Hid ((w1.alloc (.cells #[.int .i64 run, .int .i64 task, .int .i64 at_] 39)).heap[w1.heap.size]? = some (.cells #[.int .i64 run, .int .i64 task, .int .i64 at_] 39 (0, 0))) := Lib.hid (heap_alloc_new ..)
    obtain ⟨w2, hw2⟩ : ∃ w2, w2 = w1.alloc (.cells #[.int .i64 run, .int .i64 task, .int .i64 at_] 39) := ⟨_, rfl⟩
    obtain ⟨L, hL⟩ : ∃ L, L = w1.heap.size := ⟨_, rfl⟩
    go_upto_block 0 with fail
    rw [← hw2, ← hL]
    rw [← hw2] at B12 PL
    rw [← hL] at PL
    clear hw2 hL
    have R2 := Lib.hid (R1.out.on B12.out)
    have ST2 := Lib.hid (ST1.out.behind B12.out)
    clear R1 ST1 B12
    obtain ⟨A, cap, h1, hcap, h3⟩ := R2.out.obj
    obtain ⟨n, hN⟩ : ∃ n, n = s1.l.length := ⟨_, rfl⟩
    have HN := Lib.hid hN
    have D := Lib.hid h3
    rw [← hN] at h1 hcap N1
    have OB := Lib.hid h1
    have lG := Lib.hid (R2.out.lt _ R2.out.own)
    have SG : Hid (∀ W, Below w2.heap.size w2 W → (fun w' : World => w'.cell? ⟨g, 1, none⟩ = some (.slice A n cap) ∧ w'.cell? ⟨L, 0, none⟩ = some (.int .i64 run) ∧ w'.cell? ⟨L, 1, none⟩ = some (.int .i64 task) ∧ w'.cell? ⟨L, 2, none⟩ = some (.int .i64 at_)) W) := Lib.hid fun W hW => by
      have e1 := (hW.block g lG.out).trans OB.out
      have e2 := (hW.block L (lt_of_block PL.out)).trans PL.out
      exact ⟨(obW e1).1.2, by simp [World.cell?, e2], by simp [World.cell?, e2], by simp [World.cell?, e2]⟩
    have FZ : Hid (∀ W, Below w2.heap.size w2 W → W.frozen? ⟨g, 1, none⟩ = false) := Lib.hid fun W hW => (obW ((hW.block g lG.out).trans OB.out)).2.2
    clear h1 h3 hN
    go_cut [10] from 29 to 48 (fun kv wx => ∃ k : Nat, kv = .int .i64 k ∧ k ≤ n ∧ Hid (Wh.ins ⟨run, task, at_⟩ s1.l = s1.l.take k ++ ⟨run, task, at_⟩ :: s1.l.drop k) ∧ Hid (Below w2.heap.size w2 wx))
    case first =>
      go_wp2_with fail
      go_loopw [10] (fun iv wr => ∃ k : Nat, k ≤ n ∧ iv = .int .i64 k ∧ Hid (∀ i (hi : i < s1.l.length), i < k → Wh.less s1.l[i] ⟨run, task, at_⟩ = true) ∧ Hid (Below w2.heap.size w2 wr)) (fun iv _ => n - (intOf iv).toNat)
      case atStart => exact ⟨0, Nat.zero_le _, rfl, Lib.hid fun i hi h => by omega, Lib.hid (Below.refl _ _)⟩
      case round =>
        obtain ⟨k, hk, rfl, HK, HB⟩ := hrel
        have FB : Hid (Below w2.heap.size w2 wr.drew) := Lib.hid HB.out.drew
        by_cases hlt : k < n
        · have hlt' : (k : Int) < (n : Int) := by omega
          obtain ⟨b, off, a, rfl, ho, ha, c0, c1, c2, hok⟩ := D.out.at_ (k := k) (by rw [← HN.out]; exact hlt)
          have lb := Lib.hid (R2.out.lt _ ho.out)
          have z0 := Lib.hid c0
          have z1 := Lib.hid c1
          have z2 := Lib.hid c2
          have SR : Hid (∀ W, Below w2.heap.size w2 W → (fun w' : World => (w'.cell? ⟨g, 1, none⟩ = some (.slice (some ⟨b, off, none⟩) n cap) ∧ w'.cell? ⟨L, 0, none⟩ = some (.int .i64 run) ∧ w'.cell? ⟨L, 1, none⟩ = some (.int .i64 task) ∧ w'.cell? ⟨L, 2, none⟩ = some (.int .i64 at_)) ∧ w'.cell? ⟨b, off + k * 3, none⟩ = some (.int .i64 a.run) ∧ w'.cell? ⟨b, off + k * 3 + 1, none⟩ = some (.int .i64 a.task) ∧ w'.cell? ⟨b, off + k * 3 + 2, none⟩ = some (.int .i64 a.at_)) W) := Lib.hid fun W hW => ⟨by
            have := SG.out W hW
            exact this, (hW.cell (p := ⟨b, off + k * 3, none⟩) lb.out).trans z0.out, (hW.cell (p := ⟨b, off + k * 3 + 1, none⟩) lb.out).trans z1.out, (hW.cell (p := ⟨b, off + k * 3 + 2, none⟩) lb.out).trans z2.out⟩
          have LE := Lib.hid (refLess_any a ⟨run, task, at_⟩)
          clear c0 c1 c2 z0 z1 z2 hok ho lb
          go_upto_region 6 with fail
          refine wp_region_held_drew (S := fun w' => (w'.cell? ⟨g, 1, none⟩ = some (.slice (some ⟨b, off, none⟩) n cap) ∧ w'.cell? ⟨L, 0, none⟩ = some (.int .i64 run) ∧ w'.cell? ⟨L, 1, none⟩ = some (.int .i64 task) ∧ w'.cell? ⟨L, 2, none⟩ = some (.int .i64 at_)) ∧ w'.cell? ⟨b, off + k * 3, none⟩ = some (.int .i64 a.run) ∧ w'.cell? ⟨b, off + k * 3 + 1, none⟩ = some (.int .i64 a.task) ∧ w'.cell? ⟨b, off + k * 3 + 2, none⟩ = some (.int .i64 a.at_)) (by kernel_rfl) ?hS1001 (fun hHeld => ?_)
          case hS1001 => exact SR.out _ FB.out
          refine wpAnyH_take (i := 0) (oi := ?o1002) (v := ?v1002) ?hi1002 (by kernel_rfl) (by kernel_rfl) (by kernel_rfl) ?hQ1002 (Or.inl ⟨?hg1002, ?hy1002⟩) (by assumption) ?rest1002
          case hi1002 => (simp only [List.getElem?_toArray, List.getElem?_cons_zero]; exact rfl)
          case hQ1002 => exact fun _ _ _ h => h
          case hg1002 => rfl
          case hy1002 => (intro w' hSw; (try dsimp only at hSw); go_simp; try with_reducible rfl)
          try simp only [Act.put, List.setIfInBounds_toArray, List.set_cons_zero, List.set_cons_succ]
          refine wpAnyH_take (i := 1) (oi := ?o1003) (v := ?v1003) ?hi1003 (by kernel_rfl) (by kernel_rfl) (by kernel_rfl) ?hQ1003 (Or.inl ⟨?hg1003, ?hy1003⟩) (by assumption) ?rest1003
          case hi1003 => (simp only [List.getElem?_toArray, List.getElem?_cons_zero, List.getElem?_cons_succ]; exact rfl)
          case hQ1003 => exact fun _ _ _ h => h
          case hg1003 => rfl
          case hy1003 => (intro w' hSw; (try dsimp only at hSw); go_simp; try with_reducible rfl)
          try simp only [Act.put, List.setIfInBounds_toArray, List.set_cons_zero, List.set_cons_succ]
          refine wpAnyH_take (i := 2) (oi := ?o1004) (v := ?v1004) ?hi1004 (by kernel_rfl) (by kernel_rfl) (by kernel_rfl) ?hQ1004 (Or.inl ⟨?hg1004, ?hy1004⟩) (by assumption) ?rest1004
          case hi1004 => (simp only [List.getElem?_toArray, List.getElem?_cons_zero, List.getElem?_cons_succ]; exact rfl)
          case hQ1004 => exact fun _ _ _ h => h
          case hg1004 => rfl
          case hy1004 => (intro w' hSw; (try dsimp only at hSw); go_simp; try with_reducible rfl)
          try simp only [Act.put, List.setIfInBounds_toArray, List.set_cons_zero, List.set_cons_succ]
          refine wpAnyH_take (i := 3) (oi := ?o1005) (v := ?v1005) ?hi1005 (by kernel_rfl) (by kernel_rfl) (by kernel_rfl) ?hQ1005 (Or.inl ⟨?hg1005, ?hy1005⟩) (by assumption) ?rest1005
          case hi1005 => (simp only [List.getElem?_toArray, List.getElem?_cons_zero, List.getElem?_cons_succ]; exact rfl)
          case hQ1005 => exact fun _ _ _ h => h
          case hg1005 => rfl
          case hy1005 => (intro w' hSw; (try dsimp only at hSw); go_simp; try with_reducible rfl)
          try simp only [Act.put, List.setIfInBounds_toArray, List.set_cons_zero, List.set_cons_succ]
          refine wpAnyH_take (i := 4) (oi := ?o1006) (v := ?v1006) ?hi1006 (by kernel_rfl) (by kernel_rfl) (by kernel_rfl) ?hQ1006 (Or.inl ⟨?hg1006, ?hy1006⟩) (by assumption) ?rest1006
          case hi1006 => (simp only [List.getElem?_toArray, List.getElem?_cons_zero, List.getElem?_cons_succ]; exact rfl)
          case hQ1006 => exact fun _ _ _ h => h
          case hg1006 => rfl
          case hy1006 => (intro w' hSw; (try dsimp only at hSw); go_simp; try with_reducible rfl)
          try simp only [Act.put, List.setIfInBounds_toArray, List.set_cons_zero, List.set_cons_succ]
          refine wpAnyH_take (i := 5) (oi := ?o1007) (v := ?v1007) ?hi1007 (by kernel_rfl) (by kernel_rfl) (by kernel_rfl) ?hQ1007 (Or.inl ⟨?hg1007, ?hy1007⟩) (by assumption) ?rest1007
          case hi1007 => (simp only [List.getElem?_toArray, List.getElem?_cons_zero, List.getElem?_cons_succ]; exact rfl)
          case hQ1007 => exact fun _ _ _ h => h
          case hg1007 => rfl
          case hy1007 => (intro w' hSw; (try dsimp only at hSw); go_simp; try with_reducible rfl)
          try simp only [Act.put, List.setIfInBounds_toArray, List.set_cons_zero, List.set_cons_succ]
          refine wpAnyH_take (i := 6) (oi := ?o1008) (v := ?v1008) ?hi1008 (by kernel_rfl) (by kernel_rfl) (by kernel_rfl) ?hQ1008 (Or.inl ⟨?hg1008, ?hy1008⟩) (by assumption) ?rest1008
          case hi1008 => (simp only [List.getElem?_toArray, List.getElem?_cons_zero, List.getElem?_cons_succ]; exact rfl)
          case hQ1008 => exact fun _ _ _ h => h
          case hg1008 => rfl
          case hy1008 => (intro w' hSw; (try dsimp only at hSw); go_simp; try with_reducible rfl)
          try simp only [Act.put, List.setIfInBounds_toArray, List.set_cons_zero, List.set_cons_succ]
          refine wpAnyH_take (i := 7) (oi := ?o1009) (v := ?v1009) ?hi1009 (by kernel_rfl) (by kernel_rfl) (by kernel_rfl) ?hQ1009 (Or.inl ⟨?hg1009, ?hy1009⟩) (by assumption) ?rest1009
          case hi1009 => (simp only [List.getElem?_toArray, List.getElem?_cons_zero, List.getElem?_cons_succ]; exact rfl)
          case hQ1009 => exact fun _ _ _ h => h
          case hg1009 => rfl
          case hy1009 => (intro w' hSw; (try dsimp only at hSw); go_simp; try with_reducible rfl)
          try simp only [Act.put, List.setIfInBounds_toArray, List.set_cons_zero, List.set_cons_succ]
          refine wpAnyH_take (i := 8) (oi := ?o1010) (v := ?v1010) ?hi1010 (by kernel_rfl) (by kernel_rfl) (by kernel_rfl) ?hQ1010 (Or.inl ⟨?hg1010, ?hy1010⟩) (by assumption) ?rest1010
          case hi1010 => (simp only [List.getElem?_toArray, List.getElem?_cons_zero, List.getElem?_cons_succ]; exact rfl)
          case hQ1010 => exact fun _ _ _ h => h
          case hg1010 => rfl
          case hy1010 => (intro w' hSw; (try dsimp only at hSw); go_simp; try with_reducible rfl)
          try simp only [Act.put, List.setIfInBounds_toArray, List.set_cons_zero, List.set_cons_succ]
          refine wpAnyH_take (i := 9) (oi := ?o1011) (v := ?v1011) ?hi1011 (by kernel_rfl) (by kernel_rfl) (by kernel_rfl) ?hQ1011 (Or.inl ⟨?hg1011, ?hy1011⟩) (by assumption) ?rest1011
          case hi1011 => (simp only [List.getElem?_toArray, List.getElem?_cons_zero, List.getElem?_cons_succ]; exact rfl)
          case hQ1011 => exact fun _ _ _ h => h
          case hg1011 => rfl
          case hy1011 => (intro w' hSw; (try dsimp only at hSw); go_simp; try with_reducible rfl)
          try simp only [Act.put, List.setIfInBounds_toArray, List.set_cons_zero, List.set_cons_succ]
          refine wpAnyH_take (i := 10) (oi := ?o1012) (v := ?v1012) ?hi1012 (by kernel_rfl) (by kernel_rfl) (by kernel_rfl) ?hQ1012 (Or.inl ⟨?hg1012, ?hy1012⟩) (by assumption) ?rest1012
          case hi1012 => (simp only [List.getElem?_toArray, List.getElem?_cons_zero, List.getElem?_cons_succ]; exact rfl)
          case hQ1012 => exact fun _ _ _ h => h
          case hg1012 => rfl
          case hy1012 => (intro w' hSw; (try dsimp only at hSw); go_simp; try with_reducible rfl)
          try simp only [Act.put, List.setIfInBounds_toArray, List.set_cons_zero, List.set_cons_succ]
          refine wpAnyH_take (i := 11) (oi := ?o1013) (v := ?v1013) ?hi1013 (by kernel_rfl) (by kernel_rfl) (by kernel_rfl) ?hQ1013 (Or.inl ⟨?hg1013, ?hy1013⟩) (by assumption) ?rest1013
          case hi1013 => (simp only [List.getElem?_toArray, List.getElem?_cons_zero, List.getElem?_cons_succ]; exact rfl)
          case hQ1013 => exact fun _ _ _ h => h
          case hg1013 => rfl
          case hy1013 => (intro w' hSw; (try dsimp only at hSw); go_simp; try with_reducible rfl)
          try simp only [Act.put, List.setIfInBounds_toArray, List.set_cons_zero, List.set_cons_succ]
          refine wpAnyH_take (i := 12) (oi := ?o1014) (v := ?v1014) ?hi1014 (by kernel_rfl) (by kernel_rfl) (by kernel_rfl) ?hQ1014 (Or.inl ⟨?hg1014, ?hy1014⟩) (by assumption) ?rest1014
          case hi1014 => (simp only [List.getElem?_toArray, List.getElem?_cons_zero, List.getElem?_cons_succ]; exact rfl)
          case hQ1014 => exact fun _ _ _ h => h
          case hg1014 => rfl
          case hy1014 => (intro w' hSw; (try dsimp only at hSw); go_simp; try with_reducible rfl)
          try simp only [Act.put, List.setIfInBounds_toArray, List.set_cons_zero, List.set_cons_succ]
          refine wpAnyH_take (i := 13) (oi := ?o1015) (v := ?v1015) ?hi1015 (by kernel_rfl) (by kernel_rfl) (by kernel_rfl) ?hQ1015 (Or.inl ⟨?hg1015, ?hy1015⟩) (by assumption) ?rest1015
          case hi1015 => (simp only [List.getElem?_toArray, List.getElem?_cons_zero, List.getElem?_cons_succ]; exact rfl)
          case hQ1015 => exact fun _ _ _ h => h
          case hg1015 => rfl
          case hy1015 => (intro w' hSw; (try dsimp only at hSw); go_simp; try with_reducible rfl)
          try simp only [Act.put, List.setIfInBounds_toArray, List.set_cons_zero, List.set_cons_succ]
          refine wpAnyH_take (i := 14) (oi := ?o1016) (v := ?v1016) ?hi1016 (by kernel_rfl) (by kernel_rfl) (by kernel_rfl) ?hQ1016 (Or.inl ⟨?hg1016, ?hy1016⟩) (by assumption) ?rest1016
          case hi1016 => (simp only [List.getElem?_toArray, List.getElem?_cons_zero, List.getElem?_cons_succ]; exact rfl)
          case hQ1016 => exact fun _ _ _ h => h
          case hg1016 => rfl
          case hy1016 => (intro w' hSw; (try dsimp only at hSw); go_simp; try with_reducible rfl)
          try simp only [Act.put, List.setIfInBounds_toArray, List.set_cons_zero, List.set_cons_succ]
          refine wpAnyH_take (i := 15) (oi := ?o1017) (v := ?v1017) ?hi1017 (by kernel_rfl) (by kernel_rfl) (by kernel_rfl) ?hQ1017 (Or.inl ⟨?hg1017, ?hy1017⟩) (by assumption) ?rest1017
          case hi1017 => (simp only [List.getElem?_toArray, List.getElem?_cons_zero, List.getElem?_cons_succ]; exact rfl)
          case hQ1017 => exact fun _ _ _ h => h
          case hg1017 => rfl
          case hy1017 => (intro w' hSw; (try dsimp only at hSw); go_simp; try with_reducible rfl)
          try simp only [Act.put, List.setIfInBounds_toArray, List.set_cons_zero, List.set_cons_succ]
          refine wpAnyH_ready (rs := [16]) (by kernel_rfl) (by simp) ?_
          refine AllReadyH.cons (o := ?o1018) ?hi1018 (fun K hK => ?_) AllReadyH.nil
          case hi1018 => (simp only [List.getElem?_toArray, List.getElem?_cons_zero, List.getElem?_cons_succ]; exact rfl)
          (go_simp; go_at_call 24; (with_reducible refine (LE.out _).mono ?_); rintro e u1 ⟨rfl, c1⟩; try dsimp only)
          have FB : Hid (Below w2.heap.size w2 _) := Lib.hid (FB.out.trans (c1.out.mono FB.out.size))
          refine hK.out _ _ ?_ (fun hHeld => ?_)
          · exact SR.out _ FB.out
          clear hK K
          try simp only [Act.put, List.setIfInBounds_toArray, List.set_cons_zero, List.set_cons_succ]
          clear c1
          refine wpAnyH_take (i := 17) (oi := ?o1019) (v := ?v1019) ?hi1019 (by kernel_rfl) (by kernel_rfl) (by kernel_rfl) ?hQ1019 (Or.inl ⟨?hg1019, ?hy1019⟩) (by assumption) ?rest1019
          case hi1019 => (simp only [List.getElem?_toArray, List.getElem?_cons_zero, List.getElem?_cons_succ]; exact rfl)
          case hQ1019 => exact fun _ _ _ h => h
          case hg1019 => rfl
          case hy1019 => (intro w' hSw; (try dsimp only at hSw); go_simp; try with_reducible rfl)
          try simp only [Act.put, List.setIfInBounds_toArray, List.set_cons_zero, List.set_cons_succ]
          refine wpAnyH_done (by kernel_rfl) ?_ _
          cases hl : Wh.less a ⟨run, task, at_⟩ with
          | true =>
            have HK' : Hid (∀ i (hi : i < s1.l.length), i < k + 1 → Wh.less s1.l[i] ⟨run, task, at_⟩ = true) := Lib.hid fun i hi hik => by
              rcases Nat.lt_or_ge i k with h | h
              · exact HK.out i hi h
              · obtain rfl : i = k := by omega
                have := ha.out
                rw [List.getElem?_eq_getElem hi] at this
                injection this with this
                rw [this]; exact hl
            clear hl
            go_wp2
            go_roundw
            case rel => exact ⟨k + 1, by omega, by go_num, HK', FB⟩
            case measure => simp [intOf]; omega
          | false =>
            have INS := Lib.hid (Wh.ins_at (x := ⟨run, task, at_⟩) (l := s1.l) (k := k) (by have := HN.out; omega) HK.out fun a' ha' => by
              rw [ha.out] at ha'; injection ha' with ha'; rw [← ha']; exact hl)
            clear hl
            go_wp2_with fail
            go_meet
            exact ⟨k, rfl, hk, INS, FB⟩
        · obtain rfl : n = k := by omega
          have INS := Lib.hid (Wh.ins_at (x := ⟨run, task, at_⟩) (l := s1.l) (k := n) (by have := HN.out; omega) HK.out fun a' ha' => by
            rw [List.getElem?_eq_none (by have := HN.out; omega)] at ha'; cases ha')
          go_upto_region 6 with fail
          refine wp_region_held_drew (S := fun w' => w'.cell? ⟨g, 1, none⟩ = some (.slice A n cap) ∧ w'.cell? ⟨L, 0, none⟩ = some (.int .i64 run) ∧ w'.cell? ⟨L, 1, none⟩ = some (.int .i64 task) ∧ w'.cell? ⟨L, 2, none⟩ = some (.int .i64 at_)) (by kernel_rfl) ?hS1020 (fun hHeld => ?_)
          case hS1020 => exact SG.out _ FB.out
          refine wpAnyH_take (i := 0) (oi := ?o1021) (v := ?v1021) ?hi1021 (by kernel_rfl) (by kernel_rfl) (by kernel_rfl) ?hQ1021 (Or.inl ⟨?hg1021, ?hy1021⟩) (by assumption) ?rest1021
          case hi1021 => (simp only [List.getElem?_toArray, List.getElem?_cons_zero]; exact rfl)
          case hQ1021 => exact fun _ _ _ h => h
          case hg1021 => rfl
          case hy1021 => (intro w' hSw; (try dsimp only at hSw); go_simp; try with_reducible rfl)
          try simp only [Act.put, List.setIfInBounds_toArray, List.set_cons_zero, List.set_cons_succ]
          refine wpAnyH_take (i := 1) (oi := ?o1022) (v := ?v1022) ?hi1022 (by kernel_rfl) (by kernel_rfl) (by kernel_rfl) ?hQ1022 (Or.inl ⟨?hg1022, ?hy1022⟩) (by assumption) ?rest1022
          case hi1022 => (simp only [List.getElem?_toArray, List.getElem?_cons_zero, List.getElem?_cons_succ]; exact rfl)
          case hQ1022 => exact fun _ _ _ h => h
          case hg1022 => rfl
          case hy1022 => (intro w' hSw; (try dsimp only at hSw); go_simp; try with_reducible rfl)
          try simp only [Act.put, List.setIfInBounds_toArray, List.set_cons_zero, List.set_cons_succ]
          refine wpAnyH_take (i := 2) (oi := ?o1023) (v := ?v1023) ?hi1023 (by kernel_rfl) (by kernel_rfl) (by kernel_rfl) ?hQ1023 (Or.inl ⟨?hg1023, ?hy1023⟩) (by assumption) ?rest1023
          case hi1023 => (simp only [List.getElem?_toArray, List.getElem?_cons_zero, List.getElem?_cons_succ]; exact rfl)
          case hQ1023 => exact fun _ _ _ h => h
          case hg1023 => rfl
          case hy1023 => (intro w' hSw; (try dsimp only at hSw); go_simp; try with_reducible rfl)
          try simp only [Act.put, List.setIfInBounds_toArray, List.set_cons_zero, List.set_cons_succ]
          refine wpAnyH_take (i := 3) (oi := ?o1024) (v := ?v1024) ?hi1024 (by kernel_rfl) (by kernel_rfl) (by kernel_rfl) ?hQ1024 (Or.inl ⟨?hg1024, ?hy1024⟩) (by assumption) ?rest1024
          case hi1024 => (simp only [List.getElem?_toArray, List.getElem?_cons_zero, List.getElem?_cons_succ]; exact rfl)
          case hQ1024 => exact fun _ _ _ h => h
          case hg1024 => rfl
          case hy1024 => (intro w' hSw; (try dsimp only at hSw); go_simp; try with_reducible rfl)
          try simp only [Act.put, List.setIfInBounds_toArray, List.set_cons_zero, List.set_cons_succ]
          refine wpAnyH_take (i := 4) (oi := ?o1025) (v := ?v1025) ?hi1025 (by kernel_rfl) (by kernel_rfl) (by kernel_rfl) ?hQ1025 (Or.inl ⟨?hg1025, ?hy1025⟩) (by assumption) ?rest1025
          case hi1025 => (simp only [List.getElem?_toArray, List.getElem?_cons_zero, List.getElem?_cons_succ]; exact rfl)
          case hQ1025 => exact fun _ _ _ h => h
          case hg1025 => rfl
          case hy1025 => (intro w' hSw; (try dsimp only at hSw); go_simp; try with_reducible rfl)
          try simp only [Act.put, List.setIfInBounds_toArray, List.set_cons_zero, List.set_cons_succ]
          refine wpAnyH_take (i := 5) (oi := ?o1026) (v := ?v1026) ?hi1026 (by kernel_rfl) (by kernel_rfl) (by kernel_rfl) ?hQ1026 (Or.inl ⟨?hg1026, ?hy1026⟩) (by assumption) ?rest1026
          case hi1026 => (simp only [List.getElem?_toArray, List.getElem?_cons_zero, List.getElem?_cons_succ]; exact rfl)
          case hQ1026 => exact fun _ _ _ h => h
          case hg1026 => rfl
          case hy1026 => (intro w' hSw; (try dsimp only at hSw); go_simp; try with_reducible rfl)
          try simp only [Act.put, List.setIfInBounds_toArray, List.set_cons_zero, List.set_cons_succ]
          refine wpAnyH_take (i := 6) (oi := ?o1027) (v := ?v1027) ?hi1027 (by kernel_rfl) (by kernel_rfl) (by kernel_rfl) ?hQ1027 (Or.inl ⟨?hg1027, ?hy1027⟩) (by assumption) ?rest1027
          case hi1027 => (simp only [List.getElem?_toArray, List.getElem?_cons_zero, List.getElem?_cons_succ]; exact rfl)
          case hQ1027 => exact fun _ _ _ h => h
          case hg1027 => rfl
          case hy1027 => (intro w' hSw; (try dsimp only at hSw); go_simp; try with_reducible rfl)
          try simp only [Act.put, List.setIfInBounds_toArray, List.set_cons_zero, List.set_cons_succ]
          refine wpAnyH_take (i := 7) (oi := ?o1028) (v := ?v1028) ?hi1028 (by kernel_rfl) (by kernel_rfl) (by kernel_rfl) ?hQ1028 (Or.inl ⟨?hg1028, ?hy1028⟩) (by assumption) ?rest1028
          case hi1028 => (simp only [List.getElem?_toArray, List.getElem?_cons_zero, List.getElem?_cons_succ]; exact rfl)
          case hQ1028 => exact fun _ _ _ h => h
          case hg1028 => rfl
          case hy1028 => (intro w' hSw; (try dsimp only at hSw); go_simp; try with_reducible rfl)
          try simp only [Act.put, List.setIfInBounds_toArray, List.set_cons_zero, List.set_cons_succ]
          refine wpAnyH_take (i := 8) (oi := ?o1029) (v := undef) ?hi1029 (by kernel_rfl) (by kernel_rfl) (by kernel_rfl) ?hQ1029 (Or.inr ⟨?hg1029, rfl⟩) (by assumption) ?rest1029
          case hi1029 => (simp only [List.getElem?_toArray, List.getElem?_cons_zero, List.getElem?_cons_succ]; exact rfl)
          case hQ1029 => exact fun _ _ _ h => h
          case hg1029 => rfl
          try simp only [Act.put, List.setIfInBounds_toArray, List.set_cons_zero, List.set_cons_succ]
          refine wpAnyH_take (i := 9) (oi := ?o1030) (v := undef) ?hi1030 (by kernel_rfl) (by kernel_rfl) (by kernel_rfl) ?hQ1030 (Or.inr ⟨?hg1030, rfl⟩) (by assumption) ?rest1030
          case hi1030 => (simp only [List.getElem?_toArray, List.getElem?_cons_zero, List.getElem?_cons_succ]; exact rfl)
          case hQ1030 => exact fun _ _ _ h => h
          case hg1030 => rfl
          try simp only [Act.put, List.setIfInBounds_toArray, List.set_cons_zero, List.set_cons_succ]
          refine wpAnyH_take (i := 10) (oi := ?o1031) (v := undef) ?hi1031 (by kernel_rfl) (by kernel_rfl) (by kernel_rfl) ?hQ1031 (Or.inr ⟨?hg1031, rfl⟩) (by assumption) ?rest1031
          case hi1031 => (simp only [List.getElem?_toArray, List.getElem?_cons_zero, List.getElem?_cons_succ]; exact rfl)
          case hQ1031 => exact fun _ _ _ h => h
          case hg1031 => rfl
          try simp only [Act.put, List.setIfInBounds_toArray, List.set_cons_zero, List.set_cons_succ]
          refine wpAnyH_take (i := 11) (oi := ?o1032) (v := undef) ?hi1032 (by kernel_rfl) (by kernel_rfl) (by kernel_rfl) ?hQ1032 (Or.inr ⟨?hg1032, rfl⟩) (by assumption) ?rest1032
          case hi1032 => (simp only [List.getElem?_toArray, List.getElem?_cons_zero, List.getElem?_cons_succ]; exact rfl)
          case hQ1032 => exact fun _ _ _ h => h
          case hg1032 => rfl
          try simp only [Act.put, List.setIfInBounds_toArray, List.set_cons_zero, List.set_cons_succ]
          refine wpAnyH_take (i := 12) (oi := ?o1033) (v := undef) ?hi1033 (by kernel_rfl) (by kernel_rfl) (by kernel_rfl) ?hQ1033 (Or.inr ⟨?hg1033, rfl⟩) (by assumption) ?rest1033
          case hi1033 => (simp only [List.getElem?_toArray, List.getElem?_cons_zero, List.getElem?_cons_succ]; exact rfl)
          case hQ1033 => exact fun _ _ _ h => h
          case hg1033 => rfl
          try simp only [Act.put, List.setIfInBounds_toArray, List.set_cons_zero, List.set_cons_succ]
          refine wpAnyH_take (i := 13) (oi := ?o1034) (v := undef) ?hi1034 (by kernel_rfl) (by kernel_rfl) (by kernel_rfl) ?hQ1034 (Or.inr ⟨?hg1034, rfl⟩) (by assumption) ?rest1034
          case hi1034 => (simp only [List.getElem?_toArray, List.getElem?_cons_zero, List.getElem?_cons_succ]; exact rfl)
          case hQ1034 => exact fun _ _ _ h => h
          case hg1034 => rfl
          try simp only [Act.put, List.setIfInBounds_toArray, List.set_cons_zero, List.set_cons_succ]
          refine wpAnyH_take (i := 14) (oi := ?o1035) (v := undef) ?hi1035 (by kernel_rfl) (by kernel_rfl) (by kernel_rfl) ?hQ1035 (Or.inr ⟨?hg1035, rfl⟩) (by assumption) ?rest1035
          case hi1035 => (simp only [List.getElem?_toArray, List.getElem?_cons_zero, List.getElem?_cons_succ]; exact rfl)
          case hQ1035 => exact fun _ _ _ h => h
          case hg1035 => rfl
          try simp only [Act.put, List.setIfInBounds_toArray, List.set_cons_zero, List.set_cons_succ]
          refine wpAnyH_take (i := 15) (oi := ?o1036) (v := undef) ?hi1036 (by kernel_rfl) (by kernel_rfl) (by kernel_rfl) ?hQ1036 (Or.inr ⟨?hg1036, rfl⟩) (by assumption) ?rest1036
          case hi1036 => (simp only [List.getElem?_toArray, List.getElem?_cons_zero, List.getElem?_cons_succ]; exact rfl)
          case hQ1036 => exact fun _ _ _ h => h
          case hg1036 => rfl
          try simp only [Act.put, List.setIfInBounds_toArray, List.set_cons_zero, List.set_cons_succ]
          refine wpAnyH_take (i := 16) (oi := ?o1037) (v := undef) ?hi1037 (by kernel_rfl) (by kernel_rfl) (by kernel_rfl) ?hQ1037 (Or.inr ⟨?hg1037, rfl⟩) (by assumption) ?rest1037
          case hi1037 => (simp only [List.getElem?_toArray, List.getElem?_cons_zero, List.getElem?_cons_succ]; exact rfl)
          case hQ1037 => exact fun _ _ _ h => h
          case hg1037 => rfl
          try simp only [Act.put, List.setIfInBounds_toArray, List.set_cons_zero, List.set_cons_succ]
          refine wpAnyH_take (i := 17) (oi := ?o1038) (v := ?v1038) ?hi1038 (by kernel_rfl) (by kernel_rfl) (by kernel_rfl) ?hQ1038 (Or.inl ⟨?hg1038, ?hy1038⟩) (by assumption) ?rest1038
          case hi1038 => (simp only [List.getElem?_toArray, List.getElem?_cons_zero, List.getElem?_cons_succ]; exact rfl)
          case hQ1038 => exact fun _ _ _ h => h
          case hg1038 => rfl
          case hy1038 => (intro w' hSw; (try dsimp only at hSw); go_simp; try with_reducible rfl)
          try simp only [Act.put, List.setIfInBounds_toArray, List.set_cons_zero, List.set_cons_succ]
          refine wpAnyH_done (by kernel_rfl) ?_ _
          go_wp2_with fail
          go_meet
          exact ⟨n, rfl, hk, INS, FB⟩
    case rest =>
      obtain ⟨k, rfl, hk, INS, BW⟩ := hcut
      go_wp2_with fail
      have hs1 := fun W => slice_toW A n cap k (by omega) .i64 W
      have hs2 : ∀ W, (Instr.slice 40 (.slice A n cap) (some (.int .i64 (k : Int))) none none).run Try.prog W = .ok (.slice (tailW A cap k) (n - k) (cap - k)) W := fun W => slice_fromW A n cap k hk .i64 W
      have LT : Hid ((flatW (s1.l.take k)).length = k * 3) := Lib.hid (by rw [flatW_len, List.length_take]; have := HN.out; omega)
      have LD : Hid ((flatW (s1.l.drop k)).length = (n - k) * 3) := Lib.hid (by rw [flatW_len, List.length_drop, HN.out])
      have S1 : Hid (SrcW w2 w2.heap.size A (flatW (s1.l.take k))) := Lib.hid (by rw [← flatW_take]; exact D.out.src.head _)
      have S2 : Hid (SrcW w2 w2.heap.size (tailW A cap k) (flatW (s1.l.drop k))) := Lib.hid (by rw [← flatW_drop]; exact D.out.src.tail _ _ (by rw [flatW_len]; have := HN.out; omega))
      have hk1 : 0 + k ≤ 2000000 := by omega
      have hk2 : k + 1 ≤ 2000000 := by omega
      have hkn : k + 1 + (n - k) ≤ 2000000 := by omega
      obtain ⟨n2, hn2⟩ : ∃ n2, k + 1 + (n - k) = n2 := ⟨_, rfl⟩
      have hkr := Lib.hid hn2
      have B8 : Hid (Below w2.heap.size w2 wc.drew) := Lib.hid BW.out.drew
      have FIN : Hid (∀ w8 A8 c8, Below w2.heap.size w2 w8 → w8.ownsRow w2.heap.size 39 3 (.slice A8 n2 c8) n2 ((flatW (s1.l.take k) ++ flatW [⟨run, task, at_⟩]) ++ flatW (s1.l.drop k)) → ∃ O2, RW (w8.setCell ⟨g, 1, none⟩ (.slice A8 n2 c8)) g O2 (Wh.setS s run task at_) ∧ Step O O2 w (w8.setCell ⟨g, 1, none⟩ (.slice A8 n2 c8)) ∧ ∀ j, O j → O2 j) := Lib.hid fun w8 A8 c8 hb hr => by
        have Hn := R2.out.newrow (w6 := w8) (l := s1.l.take k ++ ⟨run, task, at_⟩ :: s1.l.drop k) (A6 := A8) (n6 := n2) (c6 := c8) hb (by rw [List.length_append, List.length_cons, List.length_take, List.length_drop, ← hkr.out]; have := HN.out; omega) (by
          rw [flatW_app, flatW_cons]
          rw [List.append_assoc] at hr
          exact hr) (fun b hb' => by
          rcases List.mem_append.1 hb' with hb' | hb'
          · exact D.out.1 b (List.mem_of_mem_take hb')
          · rcases List.mem_cons.1 hb' with rfl | hb'
            · exact OKX.out
            · exact D.out.1 b (List.mem_of_mem_drop hb')) (by rw [List.length_append, List.length_cons, List.length_take, List.length_drop]; have := HN.out; omega)
        rw [E2.out, INS.out]
        exact ⟨_, Hn.1, ST2.out.trans Hn.2, fun j hj => .inl (SUB1.out j hj)⟩
      clear hn2 INS BW ST2 SUB1
      refine wp_region_C (fun w' => w'.cell? ⟨g, 1, none⟩ = some (.slice A n cap) ∧ w'.cell? ⟨L, 0, none⟩ = some (.int .i64 run) ∧ w'.cell? ⟨L, 1, none⟩ = some (.int .i64 task) ∧ w'.cell? ⟨L, 2, none⟩ = some (.int .i64 at_)) 21 (by kernel_rfl) ?_
      have hS0 : (fun w' : World => w'.cell? ⟨g, 1, none⟩ = some (.slice A n cap) ∧ w'.cell? ⟨L, 0, none⟩ = some (.int .i64 run) ∧ w'.cell? ⟨L, 1, none⟩ = some (.int .i64 task) ∧ w'.cell? ⟨L, 2, none⟩ = some (.int .i64 at_)) wc.drew  :=  SG.out _ B8.out
      refine wpAnyC_take (i := 0) (oi := ?o1) (v := ?v1) ?hi1 (by kernel_rfl) (by kernel_rfl) (by kernel_rfl) ?hQ1 (by kernel_rfl) (by decide) (by kernel_rfl) (Or.inl ⟨?hg1, ?hy1⟩) (by assumption) ?rest1
      case hi1 => (simp only [List.getElem?_toArray, List.getElem?_cons_zero]; exact rfl)
      case hQ1 => exact fun _ _ _ h => h
      case hg1 => rfl
      case hy1 => (intro w' hSw; (try dsimp only at hSw); go_simp; try with_reducible rfl)
      try simp only [Act.put, List.setIfInBounds_toArray, List.set_cons_zero, List.set_cons_succ]
      refine wpAnyC_take (i := 2) (oi := ?o2) (v := ?v2) ?hi2 (by kernel_rfl) (by kernel_rfl) (by kernel_rfl) ?hQ2 (by kernel_rfl) (by decide) (by kernel_rfl) (Or.inl ⟨?hg2, ?hy2⟩) (by assumption) ?rest2
      case hi2 => (simp only [List.getElem?_toArray, List.getElem?_cons_zero, List.getElem?_cons_succ]; exact rfl)
      case hQ2 => exact fun _ _ _ h => h
      case hg2 => rfl
      case hy2 => (intro w' hSw; (try dsimp only at hSw); go_simp; try with_reducible rfl)
      try simp only [Act.put, List.setIfInBounds_toArray, List.set_cons_zero, List.set_cons_succ]
      refine wpAnyC_take (i := 3) (oi := ?o3) (v := ?v3) ?hi3 (by kernel_rfl) (by kernel_rfl) (by kernel_rfl) ?hQ3 (by kernel_rfl) (by decide) (by kernel_rfl) (Or.inl ⟨?hg3, ?hy3⟩) (by assumption) ?rest3
      case hi3 => (simp only [List.getElem?_toArray, List.getElem?_cons_zero, List.getElem?_cons_succ]; exact rfl)
      case hQ3 => exact fun _ _ _ h => h
      case hg3 => rfl
      case hy3 => (intro w' hSw; (try dsimp only at hSw); go_simp; try with_reducible rfl)
      try simp only [Act.put, List.setIfInBounds_toArray, List.set_cons_zero, List.set_cons_succ]
      refine wpAnyC_take (i := 4) (oi := ?o4) (v := ?v4) ?hi4 (by kernel_rfl) (by kernel_rfl) (by kernel_rfl) ?hQ4 (by kernel_rfl) (by decide) (by kernel_rfl) (Or.inl ⟨?hg4, ?hy4⟩) (by assumption) ?rest4
      case hi4 => (simp only [List.getElem?_toArray, List.getElem?_cons_zero, List.getElem?_cons_succ]; exact rfl)
      case hQ4 => exact fun _ _ _ h => h
      case hg4 => rfl
      case hy4 => (intro w' hSw; (try dsimp only at hSw); go_simp; try with_reducible rfl)
      try simp only [Act.put, List.setIfInBounds_toArray, List.set_cons_zero, List.set_cons_succ]
      refine wpAnyC_take (i := 5) (oi := ?o5) (v := ?v5) ?hi5 (by kernel_rfl) (by kernel_rfl) (by kernel_rfl) ?hQ5 (by kernel_rfl) (by decide) (by kernel_rfl) (Or.inl ⟨?hg5, ?hy5⟩) (by assumption) ?rest5
      case hi5 => (simp only [List.getElem?_toArray, List.getElem?_cons_zero, List.getElem?_cons_succ]; exact rfl)
      case hQ5 => exact fun _ _ _ h => h
      case hg5 => rfl
      case hy5 => (intro w' hSw; (try dsimp only at hSw); go_simp; try with_reducible rfl)
      try simp only [Act.put, List.setIfInBounds_toArray, List.set_cons_zero, List.set_cons_succ]
      refine wpAnyC_take (i := 6) (oi := ?o6) (v := ?v6) ?hi6 (by kernel_rfl) (by kernel_rfl) (by kernel_rfl) ?hQ6 (by kernel_rfl) (by decide) (by kernel_rfl) (Or.inl ⟨?hg6, ?hy6⟩) (by assumption) ?rest6
      case hi6 => (simp only [List.getElem?_toArray, List.getElem?_cons_zero, List.getElem?_cons_succ]; exact rfl)
      case hQ6 => exact fun _ _ _ h => h
      case hg6 => rfl
      case hy6 => (intro w' hSw; (try dsimp only at hSw); go_simp; try with_reducible rfl)
      try simp only [Act.put, List.setIfInBounds_toArray, List.set_cons_zero, List.set_cons_succ]
      refine wpAnyC_take (i := 7) (oi := ?o7) (v := ?v7) ?hi7 (by kernel_rfl) (by kernel_rfl) (by kernel_rfl) ?hQ7 (by kernel_rfl) (by decide) (by kernel_rfl) (Or.inl ⟨?hg7, ?hy7⟩) (by assumption) ?rest7
      case hi7 => (simp only [List.getElem?_toArray, List.getElem?_cons_zero, List.getElem?_cons_succ]; exact rfl)
      case hQ7 => exact fun _ _ _ h => h
      case hg7 => rfl
      case hy7 => (intro w' hSw; (try dsimp only at hSw); go_simp; try with_reducible rfl)
      try simp only [Act.put, List.setIfInBounds_toArray, List.set_cons_zero, List.set_cons_succ]
      refine wpAnyC_take (i := 9) (oi := ?o8) (v := ?v8) ?hi8 (by kernel_rfl) (by kernel_rfl) (by kernel_rfl) ?hQ8 (by kernel_rfl) (by decide) (by kernel_rfl) (Or.inl ⟨?hg8, ?hy8⟩) (by assumption) ?rest8
      case hi8 => (simp only [List.getElem?_toArray, List.getElem?_cons_zero, List.getElem?_cons_succ]; exact rfl)
      case hQ8 => exact fun _ _ _ h => h
      case hg8 => rfl
      case hy8 => (intro w' hSw; (try dsimp only at hSw); go_simp; try with_reducible rfl)
      try simp only [Act.put, List.setIfInBounds_toArray, List.set_cons_zero, List.set_cons_succ]
      refine wpAnyC_take (i := 12) (oi := ?o9) (v := ?v9) ?hi9 (by kernel_rfl) (by kernel_rfl) (by kernel_rfl) ?hQ9 (by kernel_rfl) (by decide) (by kernel_rfl) (Or.inl ⟨?hg9, ?hy9⟩) (by assumption) ?rest9
      case hi9 => (simp only [List.getElem?_toArray, List.getElem?_cons_zero, List.getElem?_cons_succ]; exact rfl)
      case hQ9 => exact fun _ _ _ h => h
      case hg9 => rfl
      case hy9 => (intro w' hSw; (try dsimp only at hSw); go_simp; try with_reducible rfl)
      try simp only [Act.put, List.setIfInBounds_toArray, List.set_cons_zero, List.set_cons_succ]
      refine wpAnyC_take (i := 13) (oi := ?o10) (v := ?v10) ?hi10 (by kernel_rfl) (by kernel_rfl) (by kernel_rfl) ?hQ10 (by kernel_rfl) (by decide) (by kernel_rfl) (Or.inl ⟨?hg10, ?hy10⟩) (by assumption) ?rest10
      case hi10 => (simp only [List.getElem?_toArray, List.getElem?_cons_zero, List.getElem?_cons_succ]; exact rfl)
      case hQ10 => exact fun _ _ _ h => h
      case hg10 => rfl
      case hy10 => (intro w' hSw; (try dsimp only at hSw); go_simp; try with_reducible rfl)
      try simp only [Act.put, List.setIfInBounds_toArray, List.set_cons_zero, List.set_cons_succ]
      refine wpAnyC_take (i := 14) (oi := ?o11) (v := ?v11) ?hi11 (by kernel_rfl) (by kernel_rfl) (by kernel_rfl) ?hQ11 (by kernel_rfl) (by decide) (by kernel_rfl) (Or.inl ⟨?hg11, ?hy11⟩) (by assumption) ?rest11
      case hi11 => (simp only [List.getElem?_toArray, List.getElem?_cons_zero, List.getElem?_cons_succ]; exact rfl)
      case hQ11 => exact fun _ _ _ h => h
      case hg11 => rfl
      case hy11 => (intro w' hSw; (try dsimp only at hSw); go_simp; try with_reducible rfl)
      try simp only [Act.put, List.setIfInBounds_toArray, List.set_cons_zero, List.set_cons_succ]
      refine wpAnyC_take (i := 15) (oi := ?o12) (v := ?v12) ?hi12 (by kernel_rfl) (by kernel_rfl) (by kernel_rfl) ?hQ12 (by kernel_rfl) (by decide) (by kernel_rfl) (Or.inl ⟨?hg12, ?hy12⟩) (by assumption) ?rest12
      case hi12 => (simp only [List.getElem?_toArray, List.getElem?_cons_zero, List.getElem?_cons_succ]; exact rfl)
      case hQ12 => exact fun _ _ _ h => h
      case hg12 => rfl
      case hy12 => (intro w' hSw; (try dsimp only at hSw); go_simp; try with_reducible rfl)
      try simp only [Act.put, List.setIfInBounds_toArray, List.set_cons_zero, List.set_cons_succ]
      refine wpAnyC_take (i := 16) (oi := ?o13) (v := ?v13) ?hi13 (by kernel_rfl) (by kernel_rfl) (by kernel_rfl) ?hQ13 (by kernel_rfl) (by decide) (by kernel_rfl) (Or.inl ⟨?hg13, ?hy13⟩) (by assumption) ?rest13
      case hi13 => (simp only [List.getElem?_toArray, List.getElem?_cons_zero, List.getElem?_cons_succ]; exact rfl)
      case hQ13 => exact fun _ _ _ h => h
      case hg13 => rfl
      case hy13 => (intro w' hSw; (try dsimp only at hSw); go_simp; try with_reducible rfl)
      try simp only [Act.put, List.setIfInBounds_toArray, List.set_cons_zero, List.set_cons_succ]
      refine wpAnyC_take (i := 17) (oi := ?o14) (v := ?v14) ?hi14 (by kernel_rfl) (by kernel_rfl) (by kernel_rfl) ?hQ14 (by kernel_rfl) (by decide) (by kernel_rfl) (Or.inl ⟨?hg14, ?hy14⟩) (by assumption) ?rest14
      case hi14 => (simp only [List.getElem?_toArray, List.getElem?_cons_zero, List.getElem?_cons_succ]; exact rfl)
      case hQ14 => exact fun _ _ _ h => h
      case hg14 => rfl
      case hy14 => (intro w' hSw; (try dsimp only at hSw); go_simp; try with_reducible rfl)
      try simp only [Act.put, List.setIfInBounds_toArray, List.set_cons_zero, List.set_cons_succ]
      generalize wc.drew = W8 at *
      refine wpAnyC_two (i := 1) (j := 10) (oi := ?o15) (oj := ?p15) ?hi15 ?hj15 (by kernel_rfl) ?step15 ?more15
      case hi15 => (simp only [List.getElem?_toArray, List.getElem?_cons_zero, List.getElem?_cons_succ]; exact rfl)
      case hj15 => (simp only [List.getElem?_toArray, List.getElem?_cons_zero, List.getElem?_cons_succ]; exact rfl)
      case step15 =>
        have BA : Hid (Below w2.heap.size w2 (W8.alloc (.cells #[] 39))) := Lib.hid (B8.out.alloc B8.out.size _)
        have OA : Hid ((W8.alloc (.cells #[] 39)).ownsRow w2.heap.size 39 3 (.slice (some ⟨W8.heap.size, 0, none⟩) 0 0) 0 []) := Lib.hid (World.ownsRow_lit W8 #[] 0 B8.out.size (by decide) rfl)
        have hSA := SG.out _ BA.out
        intro K' hK
        go_simp
        refine hK.out _ _ ?_ (fun hHeld => ?_)
        · exact fun _ => hSA
        clear hK K' hHeld
        try simp only [Act.put, List.setIfInBounds_toArray, List.set_cons_zero, List.set_cons_succ]
        have RA : Hid (W8.heap.size < (W8.alloc (.cells #[] 39)).heap.size) := Lib.hid (by simp)
        generalize W8.alloc (.cells #[] 39) = WA at *
        refine wpAnyC_two (i := 8) (j := 10) (oi := ?o16) (oj := ?p16) ?hi16 ?hj16 (by kernel_rfl) ?step16 ?more16
        case hi16 => (simp only [List.getElem?_toArray, List.getElem?_cons_zero, List.getElem?_cons_succ]; exact rfl)
        case hj16 => (simp only [List.getElem?_toArray, List.getElem?_cons_zero, List.getElem?_cons_succ]; exact rfl)
        case step16 =>
          intro K' hK
          (refine step_appW (by rfl) _ _ (by rfl) (by rfl) (base := w2.heap.size) OA.out BA.out.size (by rfl) (S1.out.below BA.out) LT.out (flatW_one _) hk1 (Nat.zero_add k) ?_; intro A5 c5 w5 o5 b5 g5; have B5 := Lib.hid (BA.out.trans b5); rw [List.nil_append] at o5; have O5 := Lib.hid o5; have G5 := Lib.hid g5; clear o5 b5 g5)
          refine hK.out _ _ ?_ (fun hHeld => ?_)
          · exact fun _ => SG.out _ B5.out
          clear hK K' hHeld
          try simp only [Act.put, List.setIfInBounds_toArray, List.set_cons_zero, List.set_cons_succ]
          have XS := Lib.hid (lit_src w5 run task at_)
          have XL : Hid ((flatW [⟨run, task, at_⟩]).length = 1 * 3) := Lib.hid rfl
          have B6 : Hid (Below w2.heap.size w2 (w5.alloc (.cells #[.int .i64 run, .int .i64 task, .int .i64 at_] 39))) := Lib.hid (B5.out.alloc B5.out.size _)
          have O6 : Hid ((w5.alloc (.cells #[.int .i64 run, .int .i64 task, .int .i64 at_] 39)).ownsRow w2.heap.size 39 3 (.slice A5 k c5) k (flatW (s1.l.take k))) := Lib.hid (ownsRow_alloc O5.out _)
          have hS6 := SG.out _ B6.out
          have hS5 := SG.out _ B5.out
          refine wpAnyC_one (i := 10) (oi := ?o17) ?hi17 (by kernel_rfl) ?step17
          case hi17 => (simp only [List.getElem?_toArray, List.getElem?_cons_zero, List.getElem?_cons_succ]; exact rfl)
          intro K' hK
          go_simp
          refine hK.out _ _ ?_ (fun hHeld => ?_)
          · exact fun _ => hS6
          clear hK K' hHeld
          try simp only [Act.put, List.setIfInBounds_toArray, List.set_cons_zero, List.set_cons_succ]
          clear B5 O5 hS5 G5
          have B5 := B6
          have O5 := O6
          clear B6 O6
          refine wpAnyC_one (i := 11) (oi := ?o18) ?hi18 (by kernel_rfl) ?step18
          case hi18 => (simp only [List.getElem?_toArray, List.getElem?_cons_zero, List.getElem?_cons_succ]; exact rfl)
          intro K' hK
          (refine step_appW (by rfl) _ _ (by rfl) (by rfl) (base := w2.heap.size) O5.out B5.out.size (by rfl) XS.out XL.out (flatW_one _) hk2 (by rfl) ?_; intro A7 c7 w7 o7 b7 _; have B7 := Lib.hid (B5.out.trans b7); have O7 := Lib.hid o7; clear o7 b7)
          refine hK.out _ _ ?_ (fun hHeld => ?_)
          · exact fun _ => SG.out _ B7.out
          clear hK K' hHeld
          try simp only [Act.put, List.setIfInBounds_toArray, List.set_cons_zero, List.set_cons_succ]
          have hS7 := SG.out _ B7.out
          refine wpAnyC_one (i := 18) (oi := ?o19) ?hi19 (by kernel_rfl) ?step19
          case hi19 => (simp only [List.getElem?_toArray, List.getElem?_cons_zero, List.getElem?_cons_succ]; exact rfl)
          intro K' hK
          (refine step_appW (by rfl) _ _ (by rfl) (by rfl) (base := w2.heap.size) O7.out B7.out.size (by rfl) (S2.out.below B7.out) LD.out (flatW_one _) hkn hkr.out ?_; intro A8 c8 w8 o8 b8 _; have B9 := Lib.hid (B7.out.trans b8); have O8 := Lib.hid o8; clear o8 b8)
          refine hK.out _ _ ?_ (fun hHeld => ?_)
          · exact fun _ => SG.out _ B9.out
          clear hK K' hHeld
          try simp only [Act.put, List.setIfInBounds_toArray, List.set_cons_zero, List.set_cons_succ]
          have y8 := SG.out _ B9.out
          have y9 := FZ.out _ B9.out
          refine wpAnyC_one (i := 19) (oi := ?o20) ?hi20 (by kernel_rfl) ?step20
          case hi20 => (simp only [List.getElem?_toArray, List.getElem?_cons_zero, List.getElem?_cons_succ]; exact rfl)
          intro K' hK
          go_simp
          refine hK.out _ _ ?_ (fun hHeld => ?_)
          · exact fun _ => y8
          clear hK K' hHeld
          try simp only [Act.put, List.setIfInBounds_toArray, List.set_cons_zero, List.set_cons_succ]
          refine wpAnyC_one (i := 20) (oi := ?o21) ?hi21 (by kernel_rfl) ?step21
          case hi21 => (simp only [List.getElem?_toArray, List.getElem?_cons_zero, List.getElem?_cons_succ]; exact rfl)
          intro K' hK
          go_simp
          refine hK.out _ _ ?_ (fun hHeld => ?_)
          · exact fun _ => y8
          clear hK K' hHeld
          try simp only [Act.put, List.setIfInBounds_toArray, List.set_cons_zero, List.set_cons_succ]
          refine wpAnyC_one (i := 21) (oi := ?o22) ?hi22 (by kernel_rfl) ?step22
          case hi22 => (simp only [List.getElem?_toArray, List.getElem?_cons_zero, List.getElem?_cons_succ]; exact rfl)
          intro K' hK
          go_simp
          refine hK.out _ _ ?_ (fun hHeld => ?_)
          · exact fun h => (by cases h)
          clear hK K' hHeld
          try simp only [Act.put, List.setIfInBounds_toArray, List.set_cons_zero, List.set_cons_succ]
          refine wpAnyC_done (by kernel_rfl) ?_ _
          all_goals
            go_wp2
            go_ret
            exact ⟨ret_int E1.out.symm, FIN.out _ _ _ B9.out O8.out⟩
        case more16 =>
          have XS := Lib.hid (lit_src WA run task at_)
          have XL : Hid ((flatW [⟨run, task, at_⟩]).length = 1 * 3) := Lib.hid rfl
          have ZR : Hid (WA.heap.size < (WA.alloc (.cells #[.int .i64 run, .int .i64 task, .int .i64 at_] 39)).heap.size ∧ WA.heap.size ≠ W8.heap.size) := Lib.hid ⟨by simp, by have := RA.out; omega⟩
          have B6 : Hid (Below w2.heap.size w2 (WA.alloc (.cells #[.int .i64 run, .int .i64 task, .int .i64 at_] 39))) := Lib.hid (BA.out.alloc BA.out.size _)
          have O6 := Lib.hid (ownsRow_alloc OA.out (.cells #[.int .i64 run, .int .i64 task, .int .i64 at_] 39))
          have hS6 := SG.out _ B6.out
          have hSA := SG.out _ BA.out
          intro K' hK
          go_simp
          refine hK.out _ _ ?_ (fun hHeld => ?_)
          · exact fun _ => hS6
          clear hK K' hHeld
          try simp only [Act.put, List.setIfInBounds_toArray, List.set_cons_zero, List.set_cons_succ]
          clear BA OA
          have BA := B6
          have OA := O6
          clear B6 O6
          refine wpAnyC_one (i := 8) (oi := ?o23) ?hi23 (by kernel_rfl) ?step23
          case hi23 => (simp only [List.getElem?_toArray, List.getElem?_cons_zero, List.getElem?_cons_succ]; exact rfl)
          intro K' hK
          (refine step_appW (by rfl) _ _ (by rfl) (by rfl) (base := w2.heap.size) OA.out BA.out.size (by rfl) (S1.out.below BA.out) LT.out (flatW_one _) hk1 (Nat.zero_add k) ?_; intro A5 c5 w5 o5 b5 g5; have B5 := Lib.hid (BA.out.trans b5); rw [List.nil_append] at o5; have O5 := Lib.hid o5; have G5 := Lib.hid g5; clear o5 b5 g5)
          refine hK.out _ _ ?_ (fun hHeld => ?_)
          · exact fun _ => SG.out _ B5.out
          clear hK K' hHeld
          try simp only [Act.put, List.setIfInBounds_toArray, List.set_cons_zero, List.set_cons_succ]
          have XS := Lib.hid (lit_keep XS.out G5.out ZR.out.1 ZR.out.2)
          refine wpAnyC_one (i := 11) (oi := ?o24) ?hi24 (by kernel_rfl) ?step24
          case hi24 => (simp only [List.getElem?_toArray, List.getElem?_cons_zero, List.getElem?_cons_succ]; exact rfl)
          intro K' hK
          (refine step_appW (by rfl) _ _ (by rfl) (by rfl) (base := w2.heap.size) O5.out B5.out.size (by rfl) XS.out XL.out (flatW_one _) hk2 (by rfl) ?_; intro A7 c7 w7 o7 b7 _; have B7 := Lib.hid (B5.out.trans b7); have O7 := Lib.hid o7; clear o7 b7)
          refine hK.out _ _ ?_ (fun hHeld => ?_)
          · exact fun _ => SG.out _ B7.out
          clear hK K' hHeld
          try simp only [Act.put, List.setIfInBounds_toArray, List.set_cons_zero, List.set_cons_succ]
          have hS7 := SG.out _ B7.out
          refine wpAnyC_one (i := 18) (oi := ?o25) ?hi25 (by kernel_rfl) ?step25
          case hi25 => (simp only [List.getElem?_toArray, List.getElem?_cons_zero, List.getElem?_cons_succ]; exact rfl)
          intro K' hK
          (refine step_appW (by rfl) _ _ (by rfl) (by rfl) (base := w2.heap.size) O7.out B7.out.size (by rfl) (S2.out.below B7.out) LD.out (flatW_one _) hkn hkr.out ?_; intro A8 c8 w8 o8 b8 _; have B9 := Lib.hid (B7.out.trans b8); have O8 := Lib.hid o8; clear o8 b8)
          refine hK.out _ _ ?_ (fun hHeld => ?_)
          · exact fun _ => SG.out _ B9.out
          clear hK K' hHeld
          try simp only [Act.put, List.setIfInBounds_toArray, List.set_cons_zero, List.set_cons_succ]
          have y8 := SG.out _ B9.out
          have y9 := FZ.out _ B9.out
          refine wpAnyC_one (i := 19) (oi := ?o26) ?hi26 (by kernel_rfl) ?step26
          case hi26 => (simp only [List.getElem?_toArray, List.getElem?_cons_zero, List.getElem?_cons_succ]; exact rfl)
          intro K' hK
          go_simp
          refine hK.out _ _ ?_ (fun hHeld => ?_)
          · exact fun _ => y8
          clear hK K' hHeld
          try simp only [Act.put, List.setIfInBounds_toArray, List.set_cons_zero, List.set_cons_succ]
          refine wpAnyC_one (i := 20) (oi := ?o27) ?hi27 (by kernel_rfl) ?step27
          case hi27 => (simp only [List.getElem?_toArray, List.getElem?_cons_zero, List.getElem?_cons_succ]; exact rfl)
          intro K' hK
          go_simp
          refine hK.out _ _ ?_ (fun hHeld => ?_)
          · exact fun _ => y8
          clear hK K' hHeld
          try simp only [Act.put, List.setIfInBounds_toArray, List.set_cons_zero, List.set_cons_succ]
          refine wpAnyC_one (i := 21) (oi := ?o28) ?hi28 (by kernel_rfl) ?step28
          case hi28 => (simp only [List.getElem?_toArray, List.getElem?_cons_zero, List.getElem?_cons_succ]; exact rfl)
          intro K' hK
          go_simp
          refine hK.out _ _ ?_ (fun hHeld => ?_)
          · exact fun h => (by cases h)
          clear hK K' hHeld
          try simp only [Act.put, List.setIfInBounds_toArray, List.set_cons_zero, List.set_cons_succ]
          refine wpAnyC_done (by kernel_rfl) ?_ _
          all_goals
            go_wp2
            go_ret
            exact ⟨ret_int E1.out.symm, FIN.out _ _ _ B9.out O8.out⟩
      case more15 =>
        have XS := Lib.hid (lit_src W8 run task at_)
        have XL : Hid ((flatW [⟨run, task, at_⟩]).length = 1 * 3) := Lib.hid rfl
        have B6 : Hid (Below w2.heap.size w2 (W8.alloc (.cells #[.int .i64 run, .int .i64 task, .int .i64 at_] 39))) := Lib.hid (B8.out.alloc B8.out.size _)
        have RB : Hid (W8.heap.size < (W8.alloc (.cells #[.int .i64 run, .int .i64 task, .int .i64 at_] 39)).heap.size) := Lib.hid (by simp)
        have hS6 := SG.out _ B6.out
        intro K' hK
        go_simp
        refine hK.out _ _ ?_ (fun hHeld => ?_)
        · exact fun _ => hS6
        clear hK K' hHeld
        try simp only [Act.put, List.setIfInBounds_toArray, List.set_cons_zero, List.set_cons_succ]
        generalize W8.alloc (.cells #[.int .i64 run, .int .i64 task, .int .i64 at_] 39) = WB at *
        have BA : Hid (Below w2.heap.size w2 (WB.alloc (.cells #[] 39))) := Lib.hid (B6.out.alloc B6.out.size _)
        have OA : Hid ((WB.alloc (.cells #[] 39)).ownsRow w2.heap.size 39 3 (.slice (some ⟨WB.heap.size, 0, none⟩) 0 0) 0 []) := Lib.hid (World.ownsRow_lit WB #[] 0 B6.out.size (by decide) rfl)
        have hSA := SG.out _ BA.out
        have XS := Lib.hid (XS.out.below (Below.refl WB.heap.size WB |>.alloc (Nat.le_refl _) (.cells #[] 39)))
        have ZR : Hid (W8.heap.size < (WB.alloc (.cells #[] 39)).heap.size ∧ W8.heap.size ≠ WB.heap.size) := Lib.hid ⟨by have := RB.out; simp; omega, by have := RB.out; omega⟩
        refine wpAnyC_one (i := 1) (oi := ?o29) ?hi29 (by kernel_rfl) ?step29
        case hi29 => (simp only [List.getElem?_toArray, List.getElem?_cons_zero, List.getElem?_cons_succ]; exact rfl)
        intro K' hK
        go_simp
        refine hK.out _ _ ?_ (fun hHeld => ?_)
        · exact fun _ => hSA
        clear hK K' hHeld
        try simp only [Act.put, List.setIfInBounds_toArray, List.set_cons_zero, List.set_cons_succ]
        refine wpAnyC_one (i := 8) (oi := ?o30) ?hi30 (by kernel_rfl) ?step30
        case hi30 => (simp only [List.getElem?_toArray, List.getElem?_cons_zero, List.getElem?_cons_succ]; exact rfl)
        intro K' hK
        (refine step_appW (by rfl) _ _ (by rfl) (by rfl) (base := w2.heap.size) OA.out BA.out.size (by rfl) (S1.out.below BA.out) LT.out (flatW_one _) hk1 (Nat.zero_add k) ?_; intro A5 c5 w5 o5 b5 g5; have B5 := Lib.hid (BA.out.trans b5); rw [List.nil_append] at o5; have O5 := Lib.hid o5; have G5 := Lib.hid g5; clear o5 b5 g5)
        refine hK.out _ _ ?_ (fun hHeld => ?_)
        · exact fun _ => SG.out _ B5.out
        clear hK K' hHeld
        try simp only [Act.put, List.setIfInBounds_toArray, List.set_cons_zero, List.set_cons_succ]
        have XS := Lib.hid (lit_keep XS.out G5.out ZR.out.1 ZR.out.2)
        refine wpAnyC_one (i := 11) (oi := ?o31) ?hi31 (by kernel_rfl) ?step31
        case hi31 => (simp only [List.getElem?_toArray, List.getElem?_cons_zero, List.getElem?_cons_succ]; exact rfl)
        intro K' hK
        (refine step_appW (by rfl) _ _ (by rfl) (by rfl) (base := w2.heap.size) O5.out B5.out.size (by rfl) XS.out XL.out (flatW_one _) hk2 (by rfl) ?_; intro A7 c7 w7 o7 b7 _; have B7 := Lib.hid (B5.out.trans b7); have O7 := Lib.hid o7; clear o7 b7)
        refine hK.out _ _ ?_ (fun hHeld => ?_)
        · exact fun _ => SG.out _ B7.out
        clear hK K' hHeld
        try simp only [Act.put, List.setIfInBounds_toArray, List.set_cons_zero, List.set_cons_succ]
        have hS7 := SG.out _ B7.out
        refine wpAnyC_one (i := 18) (oi := ?o32) ?hi32 (by kernel_rfl) ?step32
        case hi32 => (simp only [List.getElem?_toArray, List.getElem?_cons_zero, List.getElem?_cons_succ]; exact rfl)
        intro K' hK
        (refine step_appW (by rfl) _ _ (by rfl) (by rfl) (base := w2.heap.size) O7.out B7.out.size (by rfl) (S2.out.below B7.out) LD.out (flatW_one _) hkn hkr.out ?_; intro A8 c8 w8 o8 b8 _; have B9 := Lib.hid (B7.out.trans b8); have O8 := Lib.hid o8; clear o8 b8)
        refine hK.out _ _ ?_ (fun hHeld => ?_)
        · exact fun _ => SG.out _ B9.out
        clear hK K' hHeld
        try simp only [Act.put, List.setIfInBounds_toArray, List.set_cons_zero, List.set_cons_succ]
        have y8 := SG.out _ B9.out
        have y9 := FZ.out _ B9.out
        refine wpAnyC_one (i := 19) (oi := ?o33) ?hi33 (by kernel_rfl) ?step33
        case hi33 => (simp only [List.getElem?_toArray, List.getElem?_cons_zero, List.getElem?_cons_succ]; exact rfl)
        intro K' hK
        go_simp
        refine hK.out _ _ ?_ (fun hHeld => ?_)
        · exact fun _ => y8
        clear hK K' hHeld
        try simp only [Act.put, List.setIfInBounds_toArray, List.set_cons_zero, List.set_cons_succ]
        refine wpAnyC_one (i := 20) (oi := ?o34) ?hi34 (by kernel_rfl) ?step34
        case hi34 => (simp only [List.getElem?_toArray, List.getElem?_cons_zero, List.getElem?_cons_succ]; exact rfl)
        intro K' hK
        go_simp
        refine hK.out _ _ ?_ (fun hHeld => ?_)
        · exact fun _ => y8
        clear hK K' hHeld
        try simp only [Act.put, List.setIfInBounds_toArray, List.set_cons_zero, List.set_cons_succ]
        refine wpAnyC_one (i := 21) (oi := ?o35) ?hi35 (by kernel_rfl) ?step35
        case hi35 => (simp only [List.getElem?_toArray, List.getElem?_cons_zero, List.getElem?_cons_succ]; exact rfl)
        intro K' hK
        go_simp
        refine hK.out _ _ ?_ (fun hHeld => ?_)
        · exact fun h => (by cases h)
        clear hK K' hHeld
        try simp only [Act.put, List.setIfInBounds_toArray, List.set_cons_zero, List.set_cons_succ]
        refine wpAnyC_done (by kernel_rfl) ?_ _
        all_goals
          go_wp2
          go_ret
          exact ⟨ret_int E1.out.symm, FIN.out _ _ _ B9.out O8.out⟩
end Go.Proofs.Ytaieoneilljagaa
