/-
  Part 17 of the texts behind the law: RnFailP, RnTick, RnTest, RnSig, RnCan, RnNext, RnEqs.
-/
import Derived.Test.YtpaolgjgonghlaaDoorRn15
import Derived.Test.YtpaolgjgonghlaaDoorRn16
import Derived.Test.YtpaolgjgonghlaaDoorRn7
import Derived.BigQuiet
import Derived.Deep.QuietTactic
/-
  Package run: Fail.
-/
namespace Go.Proofs.YtpaolgjgonghlaaDoor
open Go.RowKit
set_option maxRecDepth 20000
set_option maxHeartbeats 2000000 in
theorem fail_p (p : At3) (r : Rn.R) (hI : Rn.Inv r) (w : World) (O : Nat → Prop) (h : RunO w O p r) (a x : Int) (now : Int) (ha : inI a) (hx : inI x) (h0 : 0 ≤ now) (h1 : now ≤ Rn.tickMax) : Calls Tryd.prog 13 #[rv p r, .int .i64 a, .int .i64 x, .int .i64 now] w (RunG w (Rn.failV r a x now)) := by
  have V : Hid (Rn.failV r a x now = if Rn.heldE r a x = 0 then (Rn.failsS r a now, 0) else (Rn.r0, Rn.heldE r a x)) := Lib.hid rfl
  have MO : Hid (Rn.heldE r a x = 0 → (0 ≤ a ∧ a < (r.ts.length : Int) ∧ r.st = 0) ∧ (Rn.tk r a).ph = 2 ∧ (Rn.tk r a).tr = x) := Lib.hid fun e => by
    have h2 := Rn.heldE_ok e
    exact ⟨Rn.mayE_ok h2.1, h2.2⟩
  have RF : Hid (∀ W n l, Below w.heap.size w W → n = r.d.length → l = r.sg.length → Calls Tryd.prog 24 #[.agg #[.slice p.A n p.ca, .int .i64 r.st, .slice p.T n p.ct, .slice p.S l p.cs], .int .i64 a, .int .i64 x] W (IntG W (Rn.heldE r a x))) := Lib.hid fun W n l hb hn hl => by
    have := outcome_p p r hI.len a x ha hx W O (h.on hb)
    unfold rv at this
    rw [hI.len, ← hn, ← hl] at this
    exact this
  have TK : Hid (Rn.tk r a = r.ts.getD a.toNat Rn.t0) := Lib.hid rfl
  have F5 : Hid ((Rn.failsS r a now).d = r.d ∧ (Rn.failsS r a now).ts.length = r.ts.length ∧ (Rn.failsS r a now).sg = r.sg) := Lib.hid (by
    unfold Rn.failsS Rn.setT
    split <;> exact ⟨rfl, List.length_set .., rfl⟩)
  obtain ⟨r2, hr2⟩ : ∃ r2, r2 = Rn.failsS r a now := ⟨_, rfl⟩
  rw [← hr2] at V F5
  have SS := Lib.hid hr2
  generalize Rn.failV r a x now = v at *
  generalize Rn.heldE r a x = u at *
  generalize Rn.tk r a = kk at *
  clear hr2
  obtain ⟨ha0, ha1⟩ := ha
  obtain ⟨hx0, hx1⟩ := hx
  have CP : Hid (∀ W n l, Below w.heap.size w W → n = r.d.length → l = r.sg.length → Calls Tryd.prog 21 #[.agg #[.slice p.A n p.ca, .int .i64 r.st, .slice p.T n p.ct, .slice p.S l p.cs]] W (CopG W n r.st n l r)) :=
    Lib.hid fun W n l hb hn hl => copied_q p r (Bd.of hI.toPre) w W O h hb n r.st n l hn rfl (hn.trans hI.len.symm) hl
  have BD := Lib.hid (Bd.of hI.toPre)
  have PI := Lib.hid hI.toPre
  have AI := Lib.hid (AfterIn.of hI.toPre)
  have H0 := Lib.hid h
  obtain ⟨n, hn⟩ : ∃ n, n = r.d.length := ⟨_, rfl⟩
  obtain ⟨l, hl⟩ : ∃ l, l = r.sg.length := ⟨_, rfl⟩
  have HM : Hid (r.ts.length = n) := Lib.hid (hI.len.trans hn.symm)
  have HN := Lib.hid (⟨hn, hl⟩ : n = r.d.length ∧ l = r.sg.length)
  have n9 : n ≤ 1100 := by rw [hn]; exact BD.out.d
  unfold rv
  rw [hI.len, ← hn, ← hl]
  clear hn hl hI h
  obtain ⟨W0, hW0⟩ : ∃ W0, W0 = (w.alloc (.cells #[.slice p.A n p.ca, .int .i64 r.st, .slice p.T n p.ct, .slice p.S l p.cs] 29)).alloc (.cells #[.slice none 0 0, .int .i64 0, .slice none 0 0, .slice none 0 0] 29) := ⟨_, rfl⟩
  have Q0 : Hid (Cq w W0 w.heap.size (w.heap.size + 1) (w.heap.size + 1 + 1) p n r.st n l) := Lib.hid (by rw [hW0]; exact Cq.new w p n n l r.st)
  have B0 : Hid (Below w.heap.size w W0) := Lib.hid Q0.out.below
  rw [HM.out] at MO
  go_enter Tryd.func13, Tryd.ntmps13
  obtain ⟨⟨x0, x1, x2, x3⟩, -⟩ := obj4 Q0.out.box
  go_upto_region 1 with (fail)
  rw [← hW0]
  clear hW0
  go_wp2_with fail
  (with_reducible refine (RF.out _ n l B0.out HN.out.1 HN.out.2).mono ?_); rintro e W1 ⟨rfl, b1⟩
  have Q1 := Lib.hid (Q0.out.on b1.out)
  clear x0 x1 x2 x3
  obtain ⟨⟨x0, x1, x2, x3⟩, -⟩ := obj4 Q1.out.box
  by_cases hu : u = 0
  · obtain ⟨⟨a0, a1, s0⟩, h2, h3⟩ := MO.out hu
    have R : Hid (v = (r2, 0)) := Lib.hid (by rw [V.out, if_pos hu])
    subst hu
    obtain ⟨i, hi⟩ : ∃ i : Nat, a = (i : Int) := ⟨a.toNat, by omega⟩
    subst hi
    subst h3
    have hin : i < n := by omega
    have HD : Hid (i < r.ts.length) := Lib.hid (by rw [HM.out]; exact hin)
    have HE : Hid (i < r.d.length) := Lib.hid (by rw [← HN.out.1]; exact hin)
    rw [s0] at Q0 Q1 x1 CP
    rw [Int.toNat_natCast] at TK
    clear MO RF V
    go_wp2_with fail
    (with_reducible refine (CP.out W1 n l Q1.out.below HN.out.1 HN.out.2).mono ?_); rintro e W2 ⟨q, rfl, o2, b2⟩
    have C3 := Lib.hid (Q1.out.copy o2.out b2.out)
    clear x0 x1 x2 x3
    obtain ⟨⟨x0, x1, x2, x3⟩, f0, f1, f2, f3⟩ := obj4 (Q1.out.on b2.out).box
    go_upto_region 5 with (fail)
    rw [S4.lit]
    obtain ⟨W3, hW3⟩ : ∃ W3, W3 = S4 W2 w.heap.size (.slice q.A n q.ca) (.int .i64 0) (.slice q.T n q.ct) (.slice q.S l q.cs) := ⟨_, rfl⟩
    rw [← hW3] at C3 ⊢
    clear hW3 x0 x1 x2 x3 f0 f1 f2 f3
    have TO : Hid (Rn.TkOk r.d[i] kk) := Lib.hid (by rw [TK.out]; exact PI.out.task i HE.out)
    have UP := failAt_p q r w.heap.size (w.heap.size + 1 + 1) n l i now (by omega) hin HN.out.1 (HM.out.trans HN.out.1) n9 h0 h1 (by rw [← TK.out]; exact TO.out.on (.inl h2)) (by rw [← TK.out]; exact TO.out.da (by rw [h2]; decide)) W3 (by rw [s0]; exact C3.out.box) C3.out.own
    rw [← SS.out] at UP
    have UP := Lib.hid UP
    go_wp2_with fail
    (with_reducible refine UP.out.mono ?_); intro e W5 hu5
    obtain ⟨rfl, C5⟩ := UpdPost.cp C3.out hu5
    clear UP hu5
    obtain ⟨s5, hs5⟩ : ∃ s5, s5 = r2.st := ⟨_, rfl⟩
    rw [← hs5] at C5
    have S5 := Lib.hid hs5
    clear hs5
    obtain ⟨⟨x0, x1, x2, x3⟩, -⟩ := obj4 C5.out.box
    obtain ⟨⟨z0, z1, z2, z3⟩, g0, g1, g2, g3⟩ := obj4 C5.out.zero
    go_wp2
    rw [S4.lit]
    obtain ⟨⟨d0, d1, d2, d3⟩, -⟩ := obj4 (S4.at_ C5.out.zero (.slice q.A n q.ca) (.int .i64 s5) (.slice q.T n q.ct) (.slice q.S l q.cs))
    have A5 := C5.out.ans (.slice q.A n q.ca) (.int .i64 s5) (.slice q.T n q.ct) (.slice q.S l q.cs)
    refine bodyPost_ret (v := .tuple #[.agg #[.slice q.A n q.ca, .int .i64 s5, .slice q.T n q.ct, .slice q.S l q.cs], .int .i64 0]) (by simp [results, Tryd.results13, go_sem, d0, d1, d2, d3]) rfl ?_
    rw [R.out]
    refine ⟨q, ?_, Lib.hid A5.1, Lib.hid A5.2⟩
    unfold rv
    dsimp only
    rw [F5.out.1, F5.out.2.1, HM.out, F5.out.2.2, ← HN.out.1, ← HN.out.2, S5.out]
  · have R : Hid (v = (Rn.r0, u)) := Lib.hid (by rw [V.out, if_neg hu])
    have hu' : (u != 0) = true := by simpa using hu
    clear MO V
    obtain ⟨⟨z0, z1, z2, z3⟩, g0, g1, g2, g3⟩ := obj4 Q1.out.zero
    go_wp2
    rw [S4.lit]
    obtain ⟨⟨d0, d1, d2, d3⟩, -⟩ := obj4 (S4.at_ Q1.out.zero (.slice none 0 0) (.int .i64 0) (.slice none 0 0) (.slice none 0 0))
    refine bodyPost_ret (v := .tuple #[.agg #[.slice none 0 0, .int .i64 0, .slice none 0 0, .slice none 0 0], .int .i64 u]) (by simp [results, Tryd.results13, go_sem, d0, d1, d2, d3]) rfl ?_
    rw [R.out]
    exact err_ans u Q1.out.below Q1.out.wz
end Go.Proofs.YtpaolgjgonghlaaDoor
/-
  Package run: Tick.
-/
namespace Go.Proofs.YtpaolgjgonghlaaDoor
open Go.RowKit
set_option maxRecDepth 20000
theorem Rn.tickK_over {r : Rn.R} {now : Int} {k : Nat} (h : (Rn.tickK r now k).st ≠ 0) : ∀ j, Rn.tickK r now (k + j) = Rn.tickK r now k
  | 0 => rfl
  | j + 1 => by
    rw [← Nat.add_assoc, Rn.tickK_next, Rn.tickK_over h j]
    unfold Rn.tick1
    rw [if_pos h]
set_option maxHeartbeats 4000000 in
theorem tick_p (p : At3) (r : Rn.R) (hI : Rn.Inv r) (w : World) (O : Nat → Prop) (h : RunO w O p r) (now : Int) (h0 : 0 ≤ now) (h1 : now ≤ Rn.tickMax) : Calls Tryd.prog 14 #[rv p r, .int .i64 now] w (RunG1 w (Rn.tickS r now)) := by
  have TS : Hid (Rn.tickS r now = Rn.tickK r now r.ts.length) := Lib.hid rfl
  have TI : Hid (∀ k, k ≤ r.ts.length → Rn.Inv (Rn.tickK r now k)) := Lib.hid (hI.tickK h0 h1)
  have TL : Hid (∀ k, (Rn.tickK r now k).ts.length = r.ts.length ∧ (Rn.tickK r now k).d = r.d ∧ (Rn.tickK r now k).sg = r.sg) := Lib.hid (Rn.tickK_len r now)
  have TN : Hid (∀ k, Rn.tickK r now (k + 1) = Rn.tick1 now (Rn.tickK r now k) k) := Lib.hid (Rn.tickK_next r now)
  have TV : Hid (∀ k j, (Rn.tickK r now k).st ≠ 0 → Rn.tickK r now (k + j) = Rn.tickK r now k) := Lib.hid fun k j h => Rn.tickK_over h j
  have T0 : Hid (Rn.tickK r now 0 = r) := Lib.hid rfl
  generalize Rn.tickS r now = rz at *
  obtain ⟨F, hF⟩ : ∃ F : Nat → Rn.R, ∀ k, Rn.tickK r now k = F k := ⟨_, fun _ => rfl⟩
  simp only [hF] at TS TI TL TN TV T0
  clear hF
  have CP : Hid (∀ W n l, Below w.heap.size w W → n = r.d.length → l = r.sg.length → Calls Tryd.prog 21 #[.agg #[.slice p.A n p.ca, .int .i64 r.st, .slice p.T n p.ct, .slice p.S l p.cs]] W (CopG W n r.st n l r)) :=
    Lib.hid fun W n l hb hn hl => copied_q p r (Bd.of hI.toPre) w W O h hb n r.st n l hn rfl (hn.trans hI.len.symm) hl
  have BD := Lib.hid (Bd.of hI.toPre)
  obtain ⟨n, hn⟩ : ∃ n, n = r.d.length := ⟨_, rfl⟩
  obtain ⟨l, hl⟩ : ∃ l, l = r.sg.length := ⟨_, rfl⟩
  have HM : Hid (r.ts.length = n) := Lib.hid (hI.len.trans hn.symm)
  have HN := Lib.hid (⟨hn, hl⟩ : n = r.d.length ∧ l = r.sg.length)
  have n9 : n ≤ 1100 := by rw [hn]; exact BD.out.d
  unfold rv
  rw [hI.len, ← hn, ← hl]
  clear hn hl hI h
  obtain ⟨W0, hW0⟩ : ∃ W0, W0 = (w.alloc (.cells #[.slice p.A n p.ca, .int .i64 r.st, .slice p.T n p.ct, .slice p.S l p.cs] 29)).alloc (.cells #[.slice none 0 0, .int .i64 0, .slice none 0 0, .slice none 0 0] 29) := ⟨_, rfl⟩
  have Q0 : Hid (Cq w W0 w.heap.size (w.heap.size + 1) (w.heap.size + 1 + 1) p n r.st n l) := Lib.hid (by rw [hW0]; exact Cq.new w p n n l r.st)
  have B0 : Hid (Below w.heap.size w W0) := Lib.hid Q0.out.below
  rw [HM.out] at TS
  simp only [HM.out] at TI TL
  go_enter Tryd.func14, Tryd.ntmps14
  obtain ⟨⟨x0, x1, x2, x3⟩, -⟩ := obj4 Q0.out.box
  go_upto_region 1 with (fail)
  rw [← hW0]
  clear hW0
  go_wp2_with fail
  (with_reducible refine (CP.out W0 n l Q0.out.below HN.out.1 HN.out.2).mono ?_); rintro e W2 ⟨q, rfl, o2, b2⟩
  have C3 := Lib.hid (Q0.out.copy o2.out b2.out)
  clear x0 x1 x2 x3
  obtain ⟨⟨x0, x1, x2, x3⟩, f0, f1, f2, f3⟩ := obj4 (Q0.out.on b2.out).box
  go_upto_region 2 with (fail)
  rw [S4.lit]
  obtain ⟨W3, hW3⟩ : ∃ W3, W3 = S4 W2 w.heap.size (.slice q.A n q.ca) (.int .i64 r.st) (.slice q.T n q.ct) (.slice q.S l q.cs) := ⟨_, rfl⟩
  rw [← hW3] at C3 ⊢
  clear hW3 x0 x1 x2 x3 f0 f1 f2 f3
  have SZ := Lib.hid (size_p q n r.st l)
  obtain ⟨⟨x0, x1, x2, x3⟩, -⟩ := obj4 C3.out.box
  go_wp2_with fail
  (with_reducible refine (SZ.out _).mono ?_); rintro e W4 ⟨rfl, b4⟩
  have C4 : Hid (Cp w W4 w.heap.size (w.heap.size + 1) (w.heap.size + 1 + 1) q n (F 0).st n l (F 0)) := Lib.hid (by rw [T0.out]; exact C3.out.on b4.out)
  clear x0 x1 x2 x3 C3 b4 b2 o2 SZ
  go_wp2_with fail
  go_loopw [11] (fun iv wr => ∃ k : Nat, k ≤ n ∧ iv = .int .i64 k ∧ Hid (Cp w wr w.heap.size (w.heap.size + 1) (w.heap.size + 1 + 1) q n (F k).st n l (F k))) (fun iv _ => n - (intOf iv).toNat)
  case atStart => exact ⟨0, Nat.zero_le _, rfl, C4⟩
  case round =>
    obtain ⟨k, hk, rfl, HC⟩ := hrel
    obtain ⟨⟨x0, x1, x2, x3⟩, -⟩ := obj4 HC.out.box
    by_cases hlt : k < n
    · have hlt' : (k : Int) < (n : Int) := by omega
      by_cases hs : (F k).st = 0
      · obtain ⟨g, hT, hg, -⟩ := HC.out.own.at0 (by rw [(TL.out k).1]; omega)
        have HD : Hid (k < (F k).ts.length) := Lib.hid (by rw [(TL.out k).1]; exact hlt)
        have HE : Hid (k < (F k).d.length) := Lib.hid (by rw [(TL.out k).2.1, ← HN.out.1]; exact hlt)
        obtain ⟨⟨k0, k1, k2, k3⟩, m0, m1, m2, m3⟩ := HC.out.own.tk hT HD.out
        have TK := Lib.hid ((TI.out k (by omega)).task k HE.out)
        have N1 : Hid (F (k + 1) = if now < (Rn.tk (F k) (k : Int)).un then F k else if (Rn.tk (F k) (k : Int)).ph = 2 then Rn.failsS (F k) (k : Int) now else if (Rn.tk (F k) (k : Int)).ph = 5 then Rn.setT (F k) (k : Int) ⟨1, (Rn.tk (F k) (k : Int)).tr, 0, []⟩ else F k) := Lib.hid (by
          rw [TN.out]
          unfold Rn.tick1
          rw [if_neg (fun h => h hs)])
        have KE : Hid (Rn.tk (F k) (k : Int) = (F k).ts.getD k Rn.t0) := Lib.hid rfl
        rw [KE.out] at N1
        have FA := Lib.hid (fun (h2 : ((F k).ts.getD k Rn.t0).ph = 2) W hw ho => failAt_p q (F k) w.heap.size (w.heap.size + 1 + 1) n l k now (by omega) hlt (HN.out.1.trans (congrArg List.length (TL.out k).2.1).symm) (by rw [(TL.out k).1, (TL.out k).2.1, ← HN.out.1]) n9 h0 h1 (TK.out.on (.inl h2)) (TK.out.da (by rw [h2]; decide)) W hw ho)
        obtain ⟨kk, hkk⟩ : ∃ kk, kk = (F k).ts.getD k Rn.t0 := ⟨_, rfl⟩
        have KK := Lib.hid hkk
        rw [← hkk] at k0 k1 k2 k3 TK N1 FA
        clear hkk KE
        rw [hT] at x2
        rw [hs] at x1
        by_cases hu : now < kk.un
        · have C5 : Hid (Cp w wr w.heap.size (w.heap.size + 1) (w.heap.size + 1 + 1) q n (F (k + 1)).st n l (F (k + 1))) := Lib.hid (by rw [N1.out, if_pos hu]; exact HC.out)
          clear FA N1 TK hT
          go_wp2
          go_roundw
          case rel => exact ⟨k + 1, by omega, by go_num, C5⟩
          case measure => simp [intOf]; omega
        · have hu' : decide (now < kk.un) = false := decide_eq_false hu
          by_cases h2 : kk.ph = 2
          · have N2 : Hid (F (k + 1) = Rn.failsS (F k) (k : Int) now) := Lib.hid (by rw [N1.out, if_neg hu, if_pos h2])
            have UP := Lib.hid (FA.out h2 wr (by rw [hs]; have := HC.out.box; rw [hs] at this; exact this) HC.out.own)
            rw [h2] at k0
            clear FA N1 h2 hT
            go_wp2_with fail
            (with_reducible refine UP.out.mono ?_); intro e W5 hu5
            obtain ⟨rfl, C5⟩ := UpdPost.cp HC.out hu5
            rw [← N2.out] at C5
            clear UP hu5
            go_wp2
            go_roundw
            case rel => exact ⟨k + 1, by omega, by go_num, C5⟩
            case measure => simp [intOf]; omega
          · clear FA
            by_cases h5 : kk.ph = 5
            · have N2 : Hid (F (k + 1) = ⟨(F k).d, (F k).st, (F k).ts.set k ⟨1, kk.tr, 0, []⟩, (F k).sg⟩) := Lib.hid (by rw [N1.out, if_neg hu, if_neg h2, if_pos h5]; rfl)
              have DA : Hid (kk.da = []) := Lib.hid (TK.out.da (by rw [h5]; decide))
              have O5 := HC.out.own.put02 hT HD.out KK.out.symm 1 0 ⟨by omega, by omega⟩ ⟨by omega, by omega⟩ (F k).st
              have C5 : Hid (Cp w ((wr.setCell ⟨g, k * 4, none⟩ (.int .i64 1)).setCell ⟨g, k * 4 + 2, none⟩ (.int .i64 0)) w.heap.size (w.heap.size + 1) (w.heap.size + 1 + 1) q n (F (k + 1)).st n l (F (k + 1))) := Lib.hid (by
                rw [N2.out, show ([] : Tx.T) = kk.da from DA.out.symm]
                refine HC.out.put O5 ⟨rfl, rfl, rfl, by simp [World.setCell]⟩ fun b hb => ?_
                exact (Below.heap_setCell _ _ _ _ (by show b ≠ g; omega)).trans (Below.heap_setCell _ _ _ _ (by show b ≠ g; omega)))
              rw [h5] at k0
              clear N1 h2 h5 O5 hT
              go_wp2
              go_roundw
              case rel => exact ⟨k + 1, by omega, by go_num, C5⟩
              case measure => simp [intOf]; omega
            · have C5 : Hid (Cp w wr w.heap.size (w.heap.size + 1) (w.heap.size + 1 + 1) q n (F (k + 1)).st n l (F (k + 1))) := Lib.hid (by rw [N1.out, if_neg hu, if_neg h2, if_neg h5]; exact HC.out)
              have h2' : (kk.ph == 2) = false := by simpa using h2
              have h5' : (kk.ph == 5) = false := by simpa using h5
              clear N1 hT
              go_wp2
              go_roundw
              case rel => exact ⟨k + 1, by omega, by go_num, C5⟩
              case measure => simp [intOf]; omega
      · have hs' : ((F k).st != 0) = true := by simpa using hs
        obtain ⟨⟨x0, x1, x2, x3⟩, -⟩ := obj4 HC.out.box
        obtain ⟨⟨z0, z1, z2, z3⟩, g0, g1, g2, g3⟩ := obj4 HC.out.zero
        go_wp2
        rw [S4.lit]
        obtain ⟨⟨d0, d1, d2, d3⟩, -⟩ := obj4 (S4.at_ HC.out.zero (.slice q.A n q.ca) (.int .i64 (F k).st) (.slice q.T n q.ct) (.slice q.S l q.cs))
        have A5 := HC.out.ans (.slice q.A n q.ca) (.int .i64 (F k).st) (.slice q.T n q.ct) (.slice q.S l q.cs)
        refine bodyPost_ret (v := .agg #[.slice q.A n q.ca, .int .i64 (F k).st, .slice q.T n q.ct, .slice q.S l q.cs]) (by simp [results, Tryd.results14, go_sem, d0, d1, d2, d3]) rfl ?_
        rw [show rz = F k from by rw [TS.out, show n = k + (n - k) by omega]; exact TV.out k _ hs]
        refine ⟨q, ?_, Lib.hid A5.1, Lib.hid A5.2⟩
        unfold rv
        rw [(TL.out k).1, (TL.out k).2.1, (TL.out k).2.2, ← HN.out.1, ← HN.out.2]
    · obtain rfl : k = n := by omega
      have hge : ¬ (k : Int) < (k : Int) := by omega
      obtain ⟨⟨x0, x1, x2, x3⟩, -⟩ := obj4 HC.out.box
      obtain ⟨⟨z0, z1, z2, z3⟩, g0, g1, g2, g3⟩ := obj4 HC.out.zero
      go_wp2
      rw [S4.lit]
      obtain ⟨⟨d0, d1, d2, d3⟩, -⟩ := obj4 (S4.at_ HC.out.zero (.slice q.A k q.ca) (.int .i64 (F k).st) (.slice q.T k q.ct) (.slice q.S l q.cs))
      have A5 := HC.out.ans (.slice q.A k q.ca) (.int .i64 (F k).st) (.slice q.T k q.ct) (.slice q.S l q.cs)
      refine bodyPost_ret (v := .agg #[.slice q.A k q.ca, .int .i64 (F k).st, .slice q.T k q.ct, .slice q.S l q.cs]) (by simp [results, Tryd.results14, go_sem, d0, d1, d2, d3]) rfl ?_
      rw [show rz = F k from TS.out]
      refine ⟨q, ?_, Lib.hid A5.1, Lib.hid A5.2⟩
      unfold rv
      rw [(TL.out k).1, (TL.out k).2.1, (TL.out k).2.2, ← HN.out.1, ← HN.out.2]
end Go.Proofs.YtpaolgjgonghlaaDoor
/-
  Package run: does any task wait for a signal (ContainsFunc with a function literal that has captured the name).
-/
namespace Go.Proofs.YtpaolgjgonghlaaDoor
open Go.RowKit Go.Maps
/-- The function literal of Signal, with the box of the name. -/
def fvC (g : Nat) : Value := .func (.func 29) #[] #[.pointer (some ⟨g, 0, none⟩)]
def TestC (g : Nat) (x : ByteArray) (p : Df.Task → Bool) : Prop := ∀ (t : Df.Task), Small t → ∀ (A : Option Addr) (c : Nat) (w : World), w.cell? ⟨g, 0, none⟩ = some (.string x) → Calls Tryd.prog 29 #[tv t A c, .pointer (some ⟨g, 0, none⟩)] w (BoolG w (p t))
theorem on_test (g : Nat) (x : Tx.T) : TestC g (str x) (fun t => decide (t.on = x)) := fun t _ A c w hx => by
  unfold tv
  obtain ⟨s1, hs1⟩ : ∃ s, s = str t.name := ⟨_, rfl⟩
  obtain ⟨n, hn⟩ : ∃ n, n = t.after.length := ⟨_, rfl⟩
  rw [← hs1, ← hn]
  have BB : Hid (Below w.heap.size w (w.alloc (.cells #[.string s1, .slice A n c, .int .i64 t.retry, .int .i64 t.wait, .int .i64 t.base, .string (str t.on)] 48))) := Lib.hid ((Below.refl _ _).alloc (Nat.le_refl _) _)
  have E : Hid (((str t.on).toList == (str x).toList) = decide (t.on = x)) := Lib.hid (by
    by_cases h : t.on = x
    · rw [h, decide_eq_true rfl]; simp
    · rw [decide_eq_false h]
      exact bs_ne fun e => h (str_inj.1 e))
  have hx2 := (BB.out.cell (block_lt hx)).trans hx
  dsimp only
  generalize decide (t.on = x) = v at *
  clear hs1 hn
  go_enter Tryd.func29, Tryd.ntmps29
  go_wp2
  go_ret
  exact ⟨ret_bool E.out, BB⟩
set_option maxRecDepth 20000 in
set_option maxHeartbeats 1000000 in
theorem indexFuncC_any (g : Nat) (x : ByteArray) (p : Df.Task → Bool) (hp : TestC g x p) (A : Option Addr) (d : Df.D) (cap : Nat) (hf : Fair d) (w : World) (h : DefIn w w.heap.size A d) (hx : w.cell? ⟨g, 0, none⟩ = some (.string x)) :
    Calls Tryd.prog 49 #[.slice A d.length cap, fvC g] w (FoundG w (d.any p)) := by
  have H := Lib.hid h
  have HP := Lib.hid hp
  have HX := Lib.hid hx
  have HF := Lib.hid hf
  obtain ⟨n, hn⟩ : ∃ n, n = d.length := ⟨_, rfl⟩
  have HN := Lib.hid hn
  have hn9 : n ≤ 1100 := by rw [hn]; exact hf.1
  unfold fvC
  rw [← hn]
  clear h hp hf hn hx
  go_enter Tryd.func49, Tryd.ntmps49
  go_wp2
  go_loopw [8] (fun iv wr => ∃ k : Nat, k ≤ n ∧ iv = .int .i64 k ∧ Hid (NoneTo p d k) ∧ Hid (Below w.heap.size w wr)) (fun iv _ => n - (intOf iv).toNat)
  case atStart => exact ⟨0, Nat.zero_le _, rfl, Lib.hid ⟨Nat.zero_le _, rfl⟩, Lib.hid (Below.refl _ _)⟩
  case round =>
    obtain ⟨k, hk, rfl, HK, HB⟩ := hrel
    by_cases hlt : k < n
    · have hlt' : (k : Int) < (n : Int) := by omega
      have hkd : Hid (k < d.length) := Lib.hid (by rw [← HN.out]; exact hlt)
      obtain ⟨b, off, A2, c2, rfl, hb, z2, zc, ni, p0, p1, p2, p3, p4, p5⟩ := (H.out.below HB.out).at2 hkd.out
      have CT := Lib.hid (HP.out d[k] (HF.out.2 _ (List.getElem_mem hkd.out)) A2 c2)
      cases hpk : p d[k] with
      | true =>
        rw [hpk] at CT
        have R : Hid (decide (0 ≤ (k : Int)) = d.any p) := Lib.hid (by
          rw [List.any_eq_true.2 ⟨_, List.getElem_mem hkd.out, hpk⟩]
          exact decide_eq_true (by omega))
        clear hpk
        unfold tv at CT
        generalize d[k] = t at *
        go_wp2_with fail
        refine (CT.out _ ((HB.out.cell (block_lt HX.out)).trans HX.out)).mono ?_; rintro e w' ⟨rfl, b2⟩
        go_wp2
        go_ret
        exact ⟨k, rfl, R, by omega, Lib.hid (HB.out.trans (b2.out.mono HB.out.size))⟩
      | false =>
        rw [hpk] at CT
        have R := Lib.hid (HK.out.next hkd.out hpk)
        clear hpk
        unfold tv at CT
        generalize d[k] = t at *
        go_wp2_with fail
        refine (CT.out _ ((HB.out.cell (block_lt HX.out)).trans HX.out)).mono ?_; rintro e w' ⟨rfl, b2⟩
        go_wp2
        go_roundw
        case rel => exact ⟨k + 1, by omega, by go_num, R, Lib.hid (HB.out.trans (b2.out.mono HB.out.size))⟩
        case measure => simp [intOf]; omega
    · obtain rfl : k = n := by omega
      have R : Hid (decide (0 ≤ (-1 : Int)) = d.any p) := Lib.hid (by
        have := HK.out.2
        rw [HN.out, List.take_length] at this
        rw [this]; rfl)
      have hge : ¬ (k : Int) < (k : Int) := by omega
      go_wp2
      go_ret
      exact ⟨-1, rfl, R, by omega, HB⟩
set_option maxRecDepth 20000 in
set_option maxHeartbeats 1000000 in
theorem containsFuncC_any (g : Nat) (x : ByteArray) (p : Df.Task → Bool) (hp : TestC g x p) (A : Option Addr) (d : Df.D) (cap n : Nat) (hn : n = d.length) (hf : Fair d) (w : World) (h : DefIn w w.heap.size A d) (hx : w.cell? ⟨g, 0, none⟩ = some (.string x)) :
    Calls Tryd.prog 28 #[.slice A n cap, fvC g] w (BoolG w (d.any p)) := by
  have C := Lib.hid (indexFuncC_any g x p hp A d cap hf w h hx)
  rw [← hn] at C
  clear h hp hf hn hx
  unfold fvC at C ⊢
  go_enter Tryd.func28, Tryd.ntmps28
  go_wp2_with fail
  refine C.out.mono ?_; rintro e w' ⟨i, rfl, hi, -, b2⟩
  go_wp2
  go_ret
  exact ⟨ret_bool hi.out, b2⟩
end Go.Proofs.YtpaolgjgonghlaaDoor
/-
  Package run: Signal.
-/
namespace Go.Proofs.YtpaolgjgonghlaaDoor
open Go.RowKit
set_option maxRecDepth 20000
/-- The signals grown by one. -/
theorem Cp.sig {w W Wl W5 : World} {X Z base n m l : Nat} {st : Int} {q : At3} {r : Rn.R} (h : Cp w W X Z base q n st m l r) (hl : Below W.heap.size W Wl) {A4 : Option Addr} {cap4 : Nat} {x : Tx.T} (o4 : OwnK W5 base 9 1 A4 cap4 ((r.sg ++ [x]).map sgV))
    {l0 c0 : Nat} (g4 : Wl.grownBy W5 (Value.slice q.S l0 c0).ownBlock) (q4 : ∀ a, A4 = some a → (∃ a0, q.S = some a0 ∧ a.block = a0.block) ∨ a.block = Wl.heap.size) (l' : Nat) :
    Cp w (W5.setCell ⟨X, 3, none⟩ (.slice A4 l' cap4)) X Z base ⟨q.A, q.ca, q.T, q.ct, A4, cap4⟩ n st m l' ⟨r.d, r.st, r.ts, r.sg ++ [x]⟩ := by
  have hx := h.xb
  have hz := h.zb
  have wx := h.wx
  have hs := hl.size
  have hs2 := g4.size
  have K : ∀ b, b < W.heap.size → Off b q.S → W5.heap[b]? = W.heap[b]? := fun b k hn => (g4.block b (by omega) fun e => by
    cases hq : q.S with
    | none => rw [hq] at e; simp [Value.ownBlock] at e
    | some a0 =>
      rw [hq] at e
      simp [Value.ownBlock] at e
      exact hn a0 hq e.symm).trans (hl.block b k)
  have SO : ∀ b, b < base → Off b q.S := fun b hb a ea => by have := h.own.s.own a ea; omega
  have TO : ∀ a, q.T = some a → Off a.block q.S := fun a ea a0 e0 e => h.own.ap a0 e0 a ea e.symm
  have TL : ∀ a, q.T = some a → a.block < W.heap.size := fun a ea => by
    have h1 := h.own.t
    rw [ea] at h1
    exact h1.lt.2
  have ZS : (W5.setCell ⟨X, 3, none⟩ (.slice A4 l' cap4)).heap.size = W5.heap.size := by simp [World.setCell]
  have KX : ∀ b, b ≠ X → (W5.setCell ⟨X, 3, none⟩ (.slice A4 l' cap4)).heap[b]? = W5.heap[b]? := fun b hb => Below.heap_setCell _ _ _ _ hb
  refine ⟨?_, ?_, ⟨?_, h.own.dc, ?_, h.own.ti, ?_, ?_⟩, ?_, h.wx, h.wz, h.xb, h.zb, h.xz⟩
  · exact heap_setCell_same _ _ 3 _ _ _ ((K X (lt_of_block h.box) (SO _ hx)).trans h.box)
  · exact (KX _ (Ne.symm h.xz)).trans ((K Z (lt_of_block h.zero) (SO _ hz)).trans h.zero)
  · have hd := h.own.d.imp (O' := fun b => (base ≤ b ∧ Off b q.T ∧ Off b q.S) ∧ b < W.heap.size) fun b k1 k2 => ⟨k2, k1⟩
    have hd2 := hd.keep (w' := W5) (by omega) fun b k _ => K b k.2 k.1.2.2
    refine (hd2.keep (w' := W5.setCell ⟨X, 3, none⟩ (.slice A4 l' cap4)) (Nat.le_of_eq ZS.symm) fun b k _ => KX b (by have := k.1.1; omega)).imp fun b _ k => ⟨k.1.1, k.1.2.1, fun a ea e => ?_⟩
    rcases q4 a ea with ⟨a0, e0, e1⟩ | e1
    · exact k.1.2.2 a0 e0 (e1.symm.trans e)
    · have := k.2
      omega
  · refine h.own.t.keep fun a ea => (KX _ ?_).trans (K _ (TL a ea) (TO a ea))
    have := h.own.t.own a ea
    omega
  · refine o4.keep fun a ea => KX _ ?_
    have := o4.own a ea
    omega
  · intro a ea a1 e1 e
    rcases q4 a ea with ⟨a0, e0, e2⟩ | e2
    · exact h.own.ap a0 e0 a1 e1 (e.trans e2)
    · have := TL a1 e1
      omega
  · have hb5 : Below w.heap.size w W5 := ⟨g4.os.trans (hl.os.trans h.below.os), g4.tape.trans (hl.tape.trans h.below.tape), g4.output.trans (hl.output.trans h.below.output), by have := h.below.size; omega, fun k hk => (K k (by have := h.below.size; omega) (SO k (by omega))).trans (h.below.block k hk)⟩
    exact hb5.setCell (p := ⟨X, 3, none⟩) wx _
theorem Cp.sigBox {w W Wl W5 : World} {X Z base n m l : Nat} {st : Int} {q : At3} {r : Rn.R} (h : Cp w W X Z base q n st m l r) (hl : Below W.heap.size W Wl) {l0 c0 : Nat} (g4 : Wl.grownBy W5 (Value.slice q.S l0 c0).ownBlock) : boxR W5 X q n st m l :=
  (g4.block X (by have := lt_of_block h.box; have := hl.size; omega) fun e => by
    cases hq : q.S with
    | none => rw [hq] at e; simp [Value.ownBlock] at e
    | some a0 =>
      rw [hq] at e
      simp [Value.ownBlock] at e
      have h1 := h.own.s.own a0 hq
      have h2 := h.xb
      omega).trans ((hl.block _ (lt_of_block h.box)).trans h.box)
/-- Three boxes, just made. -/
theorem Cq.new3 (w : World) (p : At3) (n m l : Nat) (st : Int) (o : Obj) :
    Cq w (((w.alloc (.cells #[.slice p.A n p.ca, .int .i64 st, .slice p.T m p.ct, .slice p.S l p.cs] 29)).alloc o).alloc (.cells #[.slice none 0 0, .int .i64 0, .slice none 0 0, .slice none 0 0] 29)) w.heap.size (w.heap.size + 1 + 1) (w.heap.size + 1 + 1 + 1) p n st m l := by
  refine ⟨?_, ?_, ((Below.refl _ _).alloc (Nat.le_refl _) _ |>.alloc (by simp) _).alloc (by simp; omega) _, Nat.le_refl _, by omega, by omega, by omega, by omega, by simp⟩
  · refine (Below.heap_alloc _ _ _ (by simp; omega)).trans ?_
    exact box0' _ _ _
  · have := heap_alloc_new ((w.alloc (.cells #[.slice p.A n p.ca, .int .i64 st, .slice p.T m p.ct, .slice p.S l p.cs] 29)).alloc o) (.cells #[.slice none 0 0, .int .i64 0, .slice none 0 0, .slice none 0 0] 29)
    rw [World.size_alloc, World.size_alloc] at this
    exact this
set_option maxHeartbeats 4000000 in
theorem sig_p (p : At3) (r : Rn.R) (hI : Rn.Inv r) (w : World) (O : Nat → Prop) (h : RunO w O p r) (s : ByteArray) (_ : s.size ≤ 140737488355328) : Calls Tryd.prog 16 #[rv p r, .string s] w (RunG w (Rn.sigV r s.data.toList)) := by
  obtain ⟨x, hx⟩ : ∃ x : Tx.T, s = str x := ⟨s.data.toList, (str_list s).symm⟩
  subst hx
  rw [str_data]
  have V : Hid (Rn.sigV r x = if Rn.sigE r x = 0 then (Rn.sigS r x, 0) else (Rn.r0, Rn.sigE r x)) := Lib.hid rfl
  have E : Hid ((r.st ≠ 0 → Rn.sigE r x = 9) ∧ (r.st = 0 → x ∈ r.sg → Rn.sigE r x = 5) ∧ (r.st = 0 → ¬ x ∈ r.sg → (x = [] ∨ ¬ (∃ t ∈ r.d, t.on = x)) → Rn.sigE r x = 1) ∧ (r.st = 0 → ¬ x ∈ r.sg → ¬ (x = [] ∨ ¬ (∃ t ∈ r.d, t.on = x)) → Rn.sigE r x = 0)) := Lib.hid (by
    unfold Rn.sigE
    exact ⟨fun h => by rw [if_pos h], fun h k => by rw [if_neg (fun e => e h), if_pos k], fun h k m => by rw [if_neg (fun e => e h), if_neg k, if_pos m], fun h k m => by rw [if_neg (fun e => e h), if_neg k, if_neg m]⟩)
  have SS : Hid (Rn.sigS r x = Rn.upd ⟨r.d, r.st, r.ts, r.sg ++ [x]⟩) := Lib.hid rfl
  have CN : Hid (∀ W n, Below w.heap.size w W → n = r.sg.length → Calls Tryd.prog 27 #[.slice p.S n p.cs, .string (str x)] W (BoolG W (decide (x ∈ r.sg)))) := Lib.hid fun W n hb hn => contains_p p.S r.sg p.cs (Bd.of hI.toPre).s (Bd.of hI.toPre).z x n hn W O (h.on hb).s
  have CF : Hid (∀ W n g, Below w.heap.size w W → n = r.d.length → W.cell? ⟨g, 0, none⟩ = some (.string (str x)) → Calls Tryd.prog 28 #[.slice p.A n p.ca, .func (.func 29) #[] #[.pointer (some ⟨g, 0, none⟩)]] W (BoolG W (r.d.any fun t => decide (t.on = x)))) :=
    Lib.hid fun W n g hb hn hg => containsFuncC_any g (str x) _ (on_test g x) p.A r.d p.ca n hn hI.good.fair W ((h.on hb).d.defIn) hg
  have AY : Hid ((r.d.any fun t => decide (t.on = x)) = true ↔ ∃ t ∈ r.d, t.on = x) := Lib.hid (by simp)
  have S16 : Hid (r.sg.length ≤ 16) := Lib.hid (Nat.le_trans (nodup_len r.sg (r.d.map (·.on)) hI.nodup fun y hy => by
    obtain ⟨_, t, ht, e⟩ := hI.sigs y hy
    exact List.mem_map.2 ⟨t, ht, e⟩) (by rw [List.length_map]; exact hI.good.n16))
  have XL : Hid (∀ t ∈ r.d, t.on = x → x.length ≤ 1100) := Lib.hid fun t ht e => by rw [← e]; exact (hI.good.fair.2 t ht).2.2
  generalize (r.d.any fun t => decide (t.on = x)) = yes at *
  generalize Rn.sigV r x = v at *
  generalize Rn.sigE r x = ee at *
  generalize Rn.sigS r x = r2 at *
  have CP : Hid (∀ W n l, Below w.heap.size w W → n = r.d.length → l = r.sg.length → Calls Tryd.prog 21 #[.agg #[.slice p.A n p.ca, .int .i64 r.st, .slice p.T n p.ct, .slice p.S l p.cs]] W (CopG W n r.st n l r)) :=
    Lib.hid fun W n l hb hn hl => copied_q p r (Bd.of hI.toPre) w W O h hb n r.st n l hn rfl (hn.trans hI.len.symm) hl
  have BD := Lib.hid (Bd.of hI.toPre)
  have AI := Lib.hid (AfterIn.of hI.toPre)
  obtain ⟨n, hn⟩ : ∃ n, n = r.d.length := ⟨_, rfl⟩
  obtain ⟨l, hl⟩ : ∃ l, l = r.sg.length := ⟨_, rfl⟩
  have HM : Hid (r.ts.length = n) := Lib.hid (hI.len.trans hn.symm)
  have HN := Lib.hid (⟨hn, hl⟩ : n = r.d.length ∧ l = r.sg.length)
  have n9 : n ≤ 1100 := by rw [hn]; exact BD.out.d
  unfold rv
  rw [hI.len, ← hn, ← hl]
  have P0 : Hid (0 < n) := Lib.hid (by have := hI.good.pos; rw [hn]; exact this)
  clear hn hl hI h
  obtain ⟨W0, hW0⟩ : ∃ W0, W0 = ((w.alloc (.cells #[.slice p.A n p.ca, .int .i64 r.st, .slice p.T n p.ct, .slice p.S l p.cs] 29)).alloc (.cells #[.string (str x)] 9)).alloc (.cells #[.slice none 0 0, .int .i64 0, .slice none 0 0, .slice none 0 0] 29) := ⟨_, rfl⟩
  have Q0 : Hid (Cq w W0 w.heap.size (w.heap.size + 1 + 1) (w.heap.size + 1 + 1 + 1) p n r.st n l) := Lib.hid (by rw [hW0]; exact Cq.new3 w p n n l r.st _)
  have B0 : Hid (Below w.heap.size w W0) := Lib.hid Q0.out.below
  have X0 : Hid (W0.heap[w.heap.size + 1]? = some (.cells #[.string (str x)] 9 (0, 0))) := Lib.hid (by rw [hW0]; exact (Below.heap_alloc _ _ _ (by simp)).trans (box1 _ _ _))
  go_enter Tryd.func16, Tryd.ntmps16
  obtain ⟨⟨x0, x1, x2, x3⟩, -⟩ := obj4 Q0.out.box
  have n0 : W0.cell? ⟨w.heap.size + 1, 0, none⟩ = some (.string (str x)) := by simp [World.cell?, X0.out]
  go_upto_region 1 with (fail)
  rw [← hW0]
  clear hW0
  by_cases hs : r.st = 0
  · rw [hs] at Q0 x1 CP SS
    have E2 := Lib.hid (E.out.2.1 hs)
    have E3 := Lib.hid (E.out.2.2.1 hs)
    have E4 := Lib.hid (E.out.2.2.2 hs)
    clear E
    go_wp2_with fail
    (with_reducible refine (CN.out W0 l B0.out HN.out.2).mono ?_); rintro e W1 ⟨rfl, b1⟩
    have Q1 := Lib.hid (Q0.out.on b1.out)
    have X1 : Hid (W1.heap[w.heap.size + 1]? = some (.cells #[.string (str x)] 9 (0, 0))) := Lib.hid ((b1.out.block _ (lt_of_block X0.out)).trans X0.out)
    clear x0 x1 x2 x3 n0
    obtain ⟨⟨x0, x1, x2, x3⟩, -⟩ := obj4 Q1.out.box
    have n0 : W1.cell? ⟨w.heap.size + 1, 0, none⟩ = some (.string (str x)) := by simp [World.cell?, X1.out]
    by_cases hm : x ∈ r.sg
    · have R : Hid (v = (Rn.r0, 5)) := Lib.hid (by rw [V.out, E2.out hm, if_neg (by decide)])
      rw [decide_eq_true hm]
      clear E2 E3 E4 V hm
      obtain ⟨⟨z0, z1, z2, z3⟩, g0, g1, g2, g3⟩ := obj4 Q1.out.zero
      go_wp2
      rw [S4.lit]
      obtain ⟨⟨d0, d1, d2, d3⟩, -⟩ := obj4 (S4.at_ Q1.out.zero (.slice none 0 0) (.int .i64 0) (.slice none 0 0) (.slice none 0 0))
      refine bodyPost_ret (v := .tuple #[.agg #[.slice none 0 0, .int .i64 0, .slice none 0 0, .slice none 0 0], .int .i64 5]) (by simp [results, Tryd.results16, go_sem, d0, d1, d2, d3]) rfl ?_
      rw [R.out]
      exact err_ans 5 Q1.out.below Q1.out.wz
    · rw [decide_eq_false hm]
      have E3 := Lib.hid (E3.out hm)
      have E4 := Lib.hid (E4.out hm)
      clear E2 hm
      by_cases he : x = []
      · have R : Hid (v = (Rn.r0, 1)) := Lib.hid (by rw [V.out, E3.out (.inl he), if_neg (by decide)])
        have hb : str x = ⟨#[]⟩ := by rw [he]; rfl
        rw [hb] at n0
        clear E3 E4 V he CN CF
        obtain ⟨⟨z0, z1, z2, z3⟩, g0, g1, g2, g3⟩ := obj4 Q1.out.zero
        go_wp2
        rw [S4.lit]
        obtain ⟨⟨d0, d1, d2, d3⟩, -⟩ := obj4 (S4.at_ Q1.out.zero (.slice none 0 0) (.int .i64 0) (.slice none 0 0) (.slice none 0 0))
        refine bodyPost_ret (v := .tuple #[.agg #[.slice none 0 0, .int .i64 0, .slice none 0 0, .slice none 0 0], .int .i64 1]) (by simp [results, Tryd.results16, go_sem, d0, d1, d2, d3]) rfl ?_
        rw [R.out]
        exact err_ans 1 Q1.out.below Q1.out.wz
      · have hb := str_ne he
        obtain ⟨hb0, hb1⟩ := hb
        cases hy : yes with
        | false =>
          have R : Hid (v = (Rn.r0, 1)) := Lib.hid (by rw [V.out, E3.out (.inr fun h => by have := AY.out.2 h; rw [hy] at this; cases this), if_neg (by decide)])
          rw [hy] at CF
          clear E3 E4 V CN
          go_wp2_with fail
          (with_reducible refine (CF.out W1 n (w.heap.size + 1) Q1.out.below HN.out.1 n0).mono ?_); rintro e W2 ⟨rfl, b2⟩
          have Q2 := Lib.hid (Q1.out.on b2.out)
          clear x0 x1 x2 x3 n0
          obtain ⟨⟨z0, z1, z2, z3⟩, g0, g1, g2, g3⟩ := obj4 Q2.out.zero
          go_wp2
          rw [S4.lit]
          obtain ⟨⟨d0, d1, d2, d3⟩, -⟩ := obj4 (S4.at_ Q2.out.zero (.slice none 0 0) (.int .i64 0) (.slice none 0 0) (.slice none 0 0))
          refine bodyPost_ret (v := .tuple #[.agg #[.slice none 0 0, .int .i64 0, .slice none 0 0, .slice none 0 0], .int .i64 1]) (by simp [results, Tryd.results16, go_sem, d0, d1, d2, d3]) rfl ?_
          rw [R.out]
          exact err_ans 1 Q2.out.below Q2.out.wz
        | true =>
          have R : Hid (v = (r2, 0)) := Lib.hid (by rw [V.out, E4.out (fun h => by rcases h with h | h; exact he h; exact h (AY.out.1 hy)), if_pos rfl])
          rw [hy] at CF
          clear E3 E4 V CN
          go_wp2_with fail
          (with_reducible refine (CF.out W1 n (w.heap.size + 1) Q1.out.below HN.out.1 n0).mono ?_); rintro e W2a ⟨rfl, b2a⟩
          have Q2 := Lib.hid (Q1.out.on b2a.out)
          have X2 : Hid (W2a.heap[w.heap.size + 1]? = some (.cells #[.string (str x)] 9 (0, 0))) := Lib.hid ((b2a.out.block _ (lt_of_block X1.out)).trans X1.out)
          have hyt := Lib.hid hy
          clear x0 x1 x2 x3 n0 CF hy hb0 hb1
          obtain ⟨⟨x0, x1, x2, x3⟩, -⟩ := obj4 Q2.out.box
          go_wp2_with fail
          (with_reducible refine (CP.out W2a n l Q2.out.below HN.out.1 HN.out.2).mono ?_); rintro e W2 ⟨q, rfl, o2, b2⟩
          have C3 := Lib.hid (Q2.out.copy o2.out b2.out)
          clear x0 x1 x2 x3
          obtain ⟨⟨x0, x1, x2, x3⟩, f0, f1, f2, f3⟩ := obj4 (Q2.out.on b2.out).box
          go_upto_region 8 with (fail)
          rw [S4.lit]
          obtain ⟨W3, hW3⟩ : ∃ W3, W3 = S4 W2 w.heap.size (.slice q.A n q.ca) (.int .i64 0) (.slice q.T n q.ct) (.slice q.S l q.cs) := ⟨_, rfl⟩
          rw [← hW3] at C3 ⊢
          have X3 : Hid (W3.heap[w.heap.size + 1]? = some (.cells #[.string (str x)] 9 (0, 0))) := Lib.hid (by rw [hW3]; exact (S4.else_ _ _ _ _ _ _ (by omega)).trans ((b2.out.block _ (lt_of_block X2.out)).trans X2.out))
          have L3 : Hid (w.heap.size + 1 + 1 + 1 ≤ W3.heap.size) := Lib.hid (by rw [hW3, S4.size_]; exact Nat.le_trans Q2.out.sz b2.out.size)
          clear hW3 x0 x1 x2 x3 f0 f1 f2 f3
          have n3 : W3.cell? ⟨w.heap.size + 1, 0, none⟩ = some (.string (str x)) := by simp [World.cell?, X3.out]
          obtain ⟨⟨x0, x1, x2, x3⟩, f0, f1, f2, f3⟩ := obj4 C3.out.box
          have BL : Hid (Below W3.heap.size W3 (W3.alloc (.cells #[.string (str x)] 9))) := Lib.hid ((Below.refl _ _).alloc (Nat.le_refl _) _)
          have OS : Hid (OwnK (W3.alloc (.cells #[.string (str x)] 9)) (w.heap.size + 1 + 1 + 1) 9 1 q.S q.cs (r.sg.map sgV)) := Lib.hid (C3.out.own.s.kept fun b _ hl => BL.out.block b hl)
          have LE : Hid ((r.sg.map sgV ++ [sgV x]).length = l + 1) := Lib.hid (by rw [List.length_append, List.length_map, ← HN.out.2]; rfl)
          have LN : Hid (l = (r.sg.map sgV).length) := Lib.hid (by rw [List.length_map]; exact HN.out.2)
          have LB : Hid (l ≤ 1100) := Lib.hid (by rw [HN.out.2]; exact BD.out.s)
          have LC : Hid ((W3.alloc (.cells #[.string (str x)] 9)).cell? ⟨W3.heap.size, 0, none⟩ = some (.string (str x))) := Lib.hid (by
            have := heap_alloc_new W3 (.cells #[.string (str x)] 9)
            simp only [World.cell?, this]
            rfl)
          go_wp2_with (at_builtin; refine wp_appK (vs := r.sg.map sgV) (us := [sgV x]) rfl (.tmp 29) (.tmp 31) rfl Tryd.underlying27 infoS rfl (by decide) (by decide) rfl LN.out OS.out (by have := L3.out; simp; omega) rfl rfl (fun v hv => by rw [List.mem_singleton.1 hv]; exact sgV_wide [x] _ (by simp)) (fun j u hu => by
            have e : [sgV x].flatten = [Value.string (str x)] := rfl
            rw [e] at hu
            obtain rfl : j = 0 := by have := (List.getElem?_eq_some_iff.1 hu).1; simp at this; omega
            rw [← hu]
            exact LC.out) (by have := LB.out; rw [← LN.out]; simp; omega) ?_; intro A4 cap4 w4 o4 g4 q4; rw [LE.out]; have O4 := Lib.hid o4; have G4 := Lib.hid g4; have Q4 := Lib.hid q4; clear o4 g4 q4; have y4 := Lib.hid (C3.out.sigBox BL.out G4.out); clear x0 x1 x2 x3 f0 f1 f2 f3; obtain ⟨⟨x0, x1, x2, x3⟩, f0, f1, f2, f3⟩ := obj4 y4.out)
          have C4 := Lib.hid (C3.out.sig (x := x) BL.out (by rw [List.map_append]; exact O4.out) G4.out Q4.out (l + 1))
          obtain ⟨W4, hW4⟩ : ∃ W4, W4 = w4.setCell ⟨w.heap.size, 3, none⟩ (.slice A4 (l + 1) cap4) := ⟨_, rfl⟩
          rw [← hW4] at C4 ⊢
          clear hW4 x0 x1 x2 x3 f0 f1 f2 f3
          rw [hs] at C4
          obtain ⟨r3, hr3⟩ : ∃ r3 : Rn.R, r3 = ⟨r.d, 0, r.ts, r.sg ++ [x]⟩ := ⟨_, rfl⟩
          rw [← hr3] at C4 SS
          have R3 := Lib.hid hr3
          clear hr3
          obtain ⟨q2, hq2⟩ : ∃ q2 : At3, q2 = ⟨q.A, q.ca, q.T, q.ct, A4, cap4⟩ := ⟨_, rfl⟩
          rw [← hq2] at C4
          obtain ⟨t0, ht0, et0⟩ := AY.out.1 hyt.out
          have UP := update_p q2 r3 w.heap.size (w.heap.size + 1 + 1 + 1) n (l + 1) (by omega) (by rw [R3.out]; exact ⟨BD.out.d, BD.out.a, BD.out.t, by show (r.sg ++ [x]).length ≤ _; have := S16.out; simp; omega, fun y hy => by
            rcases List.mem_append.1 hy with hy | hy
            · exact BD.out.z y hy
            · rw [List.mem_singleton.1 hy]; exact XL.out t0 ht0 et0⟩) (by rw [R3.out]; exact AI.out) (by rw [R3.out]; exact HN.out.1) (by rw [R3.out]; exact HM.out.trans HN.out.1) P0.out (by rw [R3.out]; show l + 1 = (r.sg ++ [x]).length; rw [List.length_append, ← HN.out.2]; rfl) W4 (by rw [show r3.st = 0 by rw [R3.out]]; exact C4.out.box) C4.out.own
          rw [← SS.out] at UP
          have UP := Lib.hid UP
          (with_reducible refine UP.out.mono ?_); intro e W5 hu5
          obtain ⟨rfl, C5⟩ := UpdPost.cp C4.out hu5
          clear UP hu5
          have F5 : Hid (r2.d = r.d ∧ r2.ts.length = n ∧ r2.sg.length = l + 1) := Lib.hid (by
            rw [SS.out, R3.out]
            refine ⟨rfl, ?_, ?_⟩
            · show (List.zipWith _ r.d r.ts).length = n
              rw [List.length_zipWith, HM.out, ← HN.out.1]
              omega
            · show (r.sg ++ [x]).length = l + 1
              rw [List.length_append, ← HN.out.2]
              rfl)
          obtain ⟨s5, hs5⟩ : ∃ s5, s5 = r2.st := ⟨_, rfl⟩
          rw [← hs5] at C5
          have S5 := Lib.hid hs5
          have QA : Hid (q2.A = q.A ∧ q2.ca = q.ca ∧ q2.T = q.T ∧ q2.ct = q.ct ∧ q2.S = A4 ∧ q2.cs = cap4) := Lib.hid (by rw [hq2]; exact ⟨rfl, rfl, rfl, rfl, rfl, rfl⟩)
          clear hs5 hq2
          obtain ⟨⟨x0, x1, x2, x3⟩, -⟩ := obj4 C5.out.box
          obtain ⟨⟨z0, z1, z2, z3⟩, g0, g1, g2, g3⟩ := obj4 C5.out.zero
          go_wp2
          rw [S4.lit]
          obtain ⟨⟨d0, d1, d2, d3⟩, -⟩ := obj4 (S4.at_ C5.out.zero (.slice q2.A n q2.ca) (.int .i64 s5) (.slice q2.T n q2.ct) (.slice q2.S (l + 1) q2.cs))
          have A5 := C5.out.ans (.slice q2.A n q2.ca) (.int .i64 s5) (.slice q2.T n q2.ct) (.slice q2.S (l + 1) q2.cs)
          refine bodyPost_ret (v := .tuple #[.agg #[.slice q2.A n q2.ca, .int .i64 s5, .slice q2.T n q2.ct, .slice q2.S (l + 1) q2.cs], .int .i64 0]) (by simp [results, Tryd.results16, go_sem, d0, d1, d2, d3]) rfl ?_
          rw [R.out]
          refine ⟨q2, ?_, Lib.hid A5.1, Lib.hid A5.2⟩
          unfold rv
          dsimp only
          rw [F5.out.1, F5.out.2.1, F5.out.2.2, ← HN.out.1, S5.out]
  · have R : Hid (v = (Rn.r0, 9)) := Lib.hid (by rw [V.out, E.out.1 hs, if_neg (by decide)])
    have hs' : (r.st != 0) = true := by simpa using hs
    clear E V CN CF
    obtain ⟨⟨z0, z1, z2, z3⟩, g0, g1, g2, g3⟩ := obj4 Q0.out.zero
    go_wp2
    rw [S4.lit]
    obtain ⟨⟨d0, d1, d2, d3⟩, -⟩ := obj4 (S4.at_ Q0.out.zero (.slice none 0 0) (.int .i64 0) (.slice none 0 0) (.slice none 0 0))
    refine bodyPost_ret (v := .tuple #[.agg #[.slice none 0 0, .int .i64 0, .slice none 0 0, .slice none 0 0], .int .i64 9]) (by simp [results, Tryd.results16, go_sem, d0, d1, d2, d3]) rfl ?_
    rw [R.out]
    exact err_ans 9 Q0.out.below Q0.out.wz
end Go.Proofs.YtpaolgjgonghlaaDoor
/-
  Package run: Cancel.
-/
namespace Go.Proofs.YtpaolgjgonghlaaDoor
open Go.RowKit
set_option maxRecDepth 20000
theorem cancel_p (p : At3) (r : Rn.R) (hI : Rn.Inv r) (w : World) (O : Nat → Prop) (h : RunO w O p r) : Calls Tryd.prog 15 #[rv p r] w (RunG w (Rn.cancelV r)) := by
  have V : Hid (Rn.cancelV r = if r.st = 0 then (⟨r.d, 3, r.ts, r.sg⟩, 0) else (Rn.r0, 9)) := Lib.hid rfl
  have CP : Hid (∀ W n m l, Below w.heap.size w W → n = r.d.length → m = r.ts.length → l = r.sg.length → Calls Tryd.prog 21 #[.agg #[.slice p.A n p.ca, .int .i64 r.st, .slice p.T m p.ct, .slice p.S l p.cs]] W (CopG W n r.st m l r)) :=
    Lib.hid fun W n m l hb hn hm hl => copied_q p r (Bd.of hI.toPre) w W O h hb n r.st m l hn rfl hm hl
  generalize Rn.cancelV r = v at *
  obtain ⟨n, hn⟩ : ∃ n, n = r.d.length := ⟨_, rfl⟩
  obtain ⟨m, hm⟩ : ∃ m, m = r.ts.length := ⟨_, rfl⟩
  obtain ⟨l, hl⟩ : ∃ l, l = r.sg.length := ⟨_, rfl⟩
  unfold rv
  rw [← hn, ← hm, ← hl]
  have HN := Lib.hid (⟨hn, hm, hl⟩ : n = r.d.length ∧ m = r.ts.length ∧ l = r.sg.length)
  clear hn hm hl hI h
  obtain ⟨W0, hW0⟩ : ∃ W0, W0 = (w.alloc (.cells #[.slice p.A n p.ca, .int .i64 r.st, .slice p.T m p.ct, .slice p.S l p.cs] 29)).alloc (.cells #[.slice none 0 0, .int .i64 0, .slice none 0 0, .slice none 0 0] 29) := ⟨_, rfl⟩
  have B0 : Hid (Below w.heap.size w W0) := Lib.hid (by rw [hW0]; exact box2 _ _ _)
  have Q0 : Hid (Cq w W0 w.heap.size (w.heap.size + 1) (w.heap.size + 1 + 1) p n r.st m l) := Lib.hid (by
    refine ⟨?_, ?_, B0.out, Nat.le_refl _, by omega, by omega, by omega, by omega, by rw [hW0]; simp⟩
    · rw [hW0]; exact box0' _ _ _
    · unfold zeroR; rw [hW0]; exact box1 _ _ _)
  generalize r.st = st at *
  go_enter Tryd.func15, Tryd.ntmps15
  obtain ⟨⟨x0, x1, x2, x3⟩, -⟩ := obj4 Q0.out.box
  by_cases h0 : st = 0
  · have R : Hid (v = (⟨r.d, 3, r.ts, r.sg⟩, 0)) := Lib.hid (by rw [V.out, if_pos h0])
    subst h0
    clear V
    go_upto_region 1 with (fail)
    rw [← hW0]
    clear hW0
    go_wp2_with fail
    (with_reducible refine (CP.out W0 n m l B0.out HN.out.1 HN.out.2.1 HN.out.2.2).mono ?_); rintro e W2 ⟨q, rfl, o2, b2⟩
    have C3 := Lib.hid (Q0.out.copy o2.out b2.out)
    clear x0 x1 x2 x3
    obtain ⟨⟨x0, x1, x2, x3⟩, f0, f1, f2, f3⟩ := obj4 (Q0.out.on b2.out).box
    go_upto_region 4 with (fail)
    rw [S4.lit]
    obtain ⟨W3, hW3⟩ : ∃ W3, W3 = S4 W2 w.heap.size (.slice q.A n q.ca) (.int .i64 0) (.slice q.T m q.ct) (.slice q.S l q.cs) := ⟨_, rfl⟩
    rw [← hW3] at C3 ⊢
    clear hW3 x0 x1 x2 x3 f0 f1 f2 f3
    have C4 := Lib.hid (C3.out.st 3 3)
    obtain ⟨W4, hW4⟩ : ∃ W4, W4 = W3.setCell ⟨w.heap.size, 1, none⟩ (.int .i64 3) := ⟨_, rfl⟩
    rw [← hW4] at C4
    obtain ⟨⟨x0, x1, x2, x3⟩, f0, f1, f2, f3⟩ := obj4 C3.out.box
    go_upto_region 5 with (fail)
    rw [← hW4]
    clear hW4 x0 x1 x2 x3 f0 f1 f2 f3
    obtain ⟨⟨x0, x1, x2, x3⟩, -⟩ := obj4 C4.out.box
    obtain ⟨⟨z0, z1, z2, z3⟩, g0, g1, g2, g3⟩ := obj4 C4.out.zero
    go_wp2
    rw [S4.lit]
    obtain ⟨⟨d0, d1, d2, d3⟩, -⟩ := obj4 (S4.at_ C4.out.zero (.slice q.A n q.ca) (.int .i64 3) (.slice q.T m q.ct) (.slice q.S l q.cs))
    have A5 := C4.out.ans (.slice q.A n q.ca) (.int .i64 3) (.slice q.T m q.ct) (.slice q.S l q.cs)
    refine bodyPost_ret (v := .tuple #[.agg #[.slice q.A n q.ca, .int .i64 3, .slice q.T m q.ct, .slice q.S l q.cs], .int .i64 0]) (by simp [results, Tryd.results15, go_sem, d0, d1, d2, d3]) rfl ?_
    rw [R.out, HN.out.1, HN.out.2.1, HN.out.2.2] at *
    exact ⟨q, rfl, Lib.hid A5.1, Lib.hid A5.2⟩
  · have R : Hid (v = (Rn.r0, 9)) := Lib.hid (by rw [V.out, if_neg h0])
    have h0' : (st != 0) = true := by simpa using h0
    clear V
    go_upto_region 1 with (fail)
    rw [← hW0]
    clear hW0
    obtain ⟨⟨z0, z1, z2, z3⟩, g0, g1, g2, g3⟩ := obj4 Q0.out.zero
    go_wp2
    rw [S4.lit]
    obtain ⟨⟨d0, d1, d2, d3⟩, -⟩ := obj4 (S4.at_ Q0.out.zero (.slice none 0 0) (.int .i64 0) (.slice none 0 0) (.slice none 0 0))
    refine bodyPost_ret (v := .tuple #[.agg #[.slice none 0 0, .int .i64 0, .slice none 0 0, .slice none 0 0], .int .i64 9]) (by simp [results, Tryd.results15, go_sem, d0, d1, d2, d3]) rfl ?_
    rw [R.out]
    exact err_ans 9 B0.out (by omega)
end Go.Proofs.YtpaolgjgonghlaaDoor
/-
  Package run: Next.
-/
namespace Go.Proofs.YtpaolgjgonghlaaDoor
open Go.RowKit
set_option maxRecDepth 20000
/-- The least Until so far, and one more task. -/
def Rn.lstep (o : Option Int) (k : Rn.Tk) : Option Int := if Rn.timed k = true then (match o with | none => some k.un | some v => some (if k.un < v then k.un else v)) else o
def Rn.mrg : Option Int → Option Int → Option Int
  | none, b => b
  | some a, none => some a
  | some a, some b => some (min a b)
theorem Rn.lstep_all : ∀ (l : List Rn.Tk) (o : Option Int), l.foldl Rn.lstep o = Rn.mrg o (Rn.least l)
  | [], o => by cases o <;> rfl
  | k :: l, o => by
    rw [List.foldl_cons, Rn.lstep_all l]
    unfold Rn.lstep
    show _ = Rn.mrg o (match Rn.least l with | none => if Rn.timed k = true then some k.un else none | some v => if Rn.timed k = true then some (min k.un v) else some v)
    cases Rn.least l with
    | none =>
      cases Rn.timed k with
      | false => rfl
      | true =>
        cases o with
        | none => rfl
        | some v =>
          show some (if k.un < v then k.un else v) = some (min v k.un)
          congr 1
          split <;> omega
    | some x =>
      cases Rn.timed k with
      | false => rfl
      | true =>
        cases o with
        | none => rfl
        | some v =>
          show some (min (if k.un < v then k.un else v) x) = some (min v (min k.un x))
          congr 1
          split <;> omega
theorem Rn.least_fold (l : List Rn.Tk) : Rn.least l = l.foldl Rn.lstep none := (Rn.lstep_all l none).symm
set_option maxHeartbeats 2000000 in
theorem next_p (p : At3) (r : Rn.R) (hI : Rn.Inv r) (w : World) (O : Nat → Prop) (h : RunO w O p r) :
    Calls Tryd.prog 11 #[rv p r] w fun e w' => e = .returned (.tuple #[.int .i64 ((Rn.nextV r).getD 0), .bool (Rn.nextV r).isSome]) ∧ Hid (Below w.heap.size w w') := by
  have V : Hid (Rn.nextV r = if r.st = 0 then Rn.least r.ts else none) := Lib.hid rfl
  generalize Rn.nextV r = v at *
  have NP : 0 < r.ts.length := by rw [hI.len]; exact hI.good.pos
  obtain ⟨b, off, hA, -, hb, hc⟩ := h.t.2 NP
  have HC := Lib.hid hc
  have TI := Lib.hid h.t.1
  have n9 : r.ts.length ≤ 1100 := (Bd.of hI.toPre).t
  unfold rv
  rw [hA]
  obtain ⟨n, hn⟩ : ∃ n, n = r.ts.length := ⟨_, rfl⟩
  rw [← hn] at n9 ⊢
  have HN := Lib.hid hn
  generalize r.d.length = m at *
  generalize r.sg.length = l at *
  obtain ⟨W0, hW0⟩ : ∃ W0, W0 = w.alloc (.cells #[.slice p.A m p.ca, .int .i64 r.st, .slice (some ⟨b, off, none⟩) n p.ct, .slice p.S l p.cs] 29) := ⟨_, rfl⟩
  have B0 : Hid (Below w.heap.size w W0) := Lib.hid (by rw [hW0]; exact (Below.refl _ _).alloc (Nat.le_refl _) _)
  have X0 : W0.heap[w.heap.size]? = some (.cells #[.slice p.A m p.ca, .int .i64 r.st, .slice (some ⟨b, off, none⟩) n p.ct, .slice p.S l p.cs] 29 (0, 0)) := by rw [hW0]; exact heap_alloc_new _ _
  obtain ⟨⟨x0, x1, x2, x3⟩, -⟩ := obj4 X0
  have HB := Lib.hid hb
  generalize r.st = st at *
  clear hI h hA hc hb NP X0 hn
  go_enter Tryd.func11, Tryd.ntmps11
  go_upto_region 1 with (fail)
  rw [← hW0]
  clear hW0
  by_cases h0 : st = 0
  · have R : Hid (v = r.ts.foldl Rn.lstep none) := Lib.hid (by rw [V.out, if_pos h0, Rn.least_fold])
    subst h0
    clear V
    go_wp2_with fail
    go_loopw [4, 5, 14] (fun lv bv iv wr => ∃ (k : Nat) (z : Int) (o : Bool), k ≤ n ∧ lv = .int .i64 z ∧ bv = .bool o ∧ iv = .int .i64 k ∧ Hid (z = ((r.ts.take k).foldl Rn.lstep none).getD 0 ∧ o = ((r.ts.take k).foldl Rn.lstep none).isSome) ∧ Hid (Below w.heap.size w wr)) (fun _ _ iv _ => n - (intOf iv).toNat)
    case atStart => exact ⟨0, 0, false, Nat.zero_le _, rfl, rfl, rfl, Lib.hid ⟨rfl, rfl⟩, B0⟩
    case round =>
      obtain ⟨k, z, o, hk, rfl, rfl, rfl, HZ, HW⟩ := hrel
      by_cases hlt : k < n
      · have hlt' : (k : Int) < (n : Int) := by omega
        have HD : Hid (k < r.ts.length) := Lib.hid (by rw [← HN.out]; exact hlt)
        obtain ⟨kk, hkk⟩ : ∃ kk, kk = r.ts.getD k Rn.t0 := ⟨_, rfl⟩
        have KK := Lib.hid hkk
        have c0 : w.cell? ⟨b, off + k * 4, none⟩ = some (.int .i64 kk.ph) := by rw [hkk]; exact (HC.out k HD.out).1
        have c1 : w.cell? ⟨b, off + k * 4 + 1, none⟩ = some (.int .i64 kk.tr) := by rw [hkk]; exact (HC.out k HD.out).2.1
        have c2 : w.cell? ⟨b, off + k * 4 + 2, none⟩ = some (.int .i64 kk.un) := by rw [hkk]; exact (HC.out k HD.out).2.2.1
        have c3 : w.cell? ⟨b, off + k * 4 + 3, none⟩ = some (.string (str kk.da)) := by rw [hkk]; exact (HC.out k HD.out).2.2.2
        have KI : Hid (tkIn kk) := Lib.hid (by rw [hkk, getD_at HD.out]; exact TI.out _ (List.getElem_mem _))
        clear hkk
        have e0 := (HW.out.cell (block_lt c0)).trans c0
        have e1 := (HW.out.cell (block_lt c1)).trans c1
        have e2 := (HW.out.cell (block_lt c2)).trans c2
        have e3 := (HW.out.cell (block_lt c3)).trans c3
        clear c0 c1 c2 c3
        have ST : Hid ((r.ts.take (k + 1)).foldl Rn.lstep none = Rn.lstep ((r.ts.take k).foldl Rn.lstep none) kk) := Lib.hid (by
          rw [List.take_add_one, List.getElem?_eq_getElem HD.out, List.foldl_append, KK.out, getD_at HD.out]
          rfl)
        obtain ⟨u, hu⟩ : ∃ u, u = (r.ts.take k).foldl Rn.lstep none := ⟨_, rfl⟩
        rw [← hu] at ST HZ
        clear hu
        obtain ⟨W1, hW1⟩ : ∃ W1, W1 = wr.alloc (.cells #[.int .i64 kk.ph, .int .i64 kk.tr, .int .i64 kk.un, .string (str kk.da)] 42) := ⟨_, rfl⟩
        have T1 : W1.heap[wr.heap.size]? = some (.cells #[.int .i64 kk.ph, .int .i64 kk.tr, .int .i64 kk.un, .string (str kk.da)] 42 (0, 0)) := by rw [hW1]; exact heap_alloc_new _ _
        have B1 : Hid (Below w.heap.size w W1) := Lib.hid (by rw [hW1]; exact HW.out.alloc HW.out.size _)
        obtain ⟨⟨y0, y1, y2, y3⟩, -⟩ := obj4 T1
        clear T1
        go_upto_region 7 with (fail)
        rw [← hW1]
        clear hW1 e0 e1 e2 e3
        cases u with
        | none =>
          obtain ⟨rfl, rfl⟩ : z = 0 ∧ o = false := HZ.out
          by_cases h2 : kk.ph = 2
          · have TT : Hid (Rn.timed kk = true) := Lib.hid (decide_eq_true (.inl h2))
            rw [h2] at y0
            clear h2
            go_wp2
            go_roundw
            case rel => exact ⟨k + 1, kk.un, true, by omega, rfl, rfl, by go_num, Lib.hid (by rw [ST.out]; unfold Rn.lstep; rw [if_pos TT.out]; exact ⟨rfl, rfl⟩), B1⟩
            case measure => simp [intOf]; omega
          · have h2' : (kk.ph != 2) = true := by simpa using h2
            by_cases h5 : kk.ph = 5
            · have TT : Hid (Rn.timed kk = true) := Lib.hid (decide_eq_true (.inr h5))
              rw [h5] at y0
              clear h2 h2' h5
              go_wp2
              go_roundw
              case rel => exact ⟨k + 1, kk.un, true, by omega, rfl, rfl, by go_num, Lib.hid (by rw [ST.out]; unfold Rn.lstep; rw [if_pos TT.out]; exact ⟨rfl, rfl⟩), B1⟩
              case measure => simp [intOf]; omega
            · have TT : Hid (Rn.timed kk = false) := Lib.hid (decide_eq_false fun h => by rcases h with h | h; exact h2 h; exact h5 h)
              have h5' : (kk.ph != 5) = true := by simpa using h5
              go_wp2
              go_roundw
              case rel => exact ⟨k + 1, 0, false, by omega, rfl, rfl, by go_num, Lib.hid (by rw [ST.out]; unfold Rn.lstep; rw [if_neg (by rw [TT.out]; decide)]; exact ⟨rfl, rfl⟩), B1⟩
              case measure => simp [intOf]; omega
        | some z2 =>
          obtain ⟨rfl, rfl⟩ : z = z2 ∧ o = true := HZ.out
          by_cases h2 : kk.ph = 2
          · have TT : Hid (Rn.timed kk = true) := Lib.hid (decide_eq_true (.inl h2))
            rw [h2] at y0
            clear h2
            by_cases hl : kk.un < z
            · skip
              go_wp2
              go_roundw
              case rel => exact ⟨k + 1, kk.un, true, by omega, rfl, rfl, by go_num, Lib.hid (by rw [ST.out]; unfold Rn.lstep; rw [if_pos TT.out]; simp only [if_pos hl]; exact ⟨rfl, rfl⟩), B1⟩
              case measure => simp [intOf]; omega
            · have hl' : decide (kk.un < z) = false := decide_eq_false hl
              go_wp2
              go_roundw
              case rel => exact ⟨k + 1, z, true, by omega, rfl, rfl, by go_num, Lib.hid (by rw [ST.out]; unfold Rn.lstep; rw [if_pos TT.out]; simp only [if_neg hl]; exact ⟨rfl, rfl⟩), B1⟩
              case measure => simp [intOf]; omega
          · have h2' : (kk.ph != 2) = true := by simpa using h2
            by_cases h5 : kk.ph = 5
            · have TT : Hid (Rn.timed kk = true) := Lib.hid (decide_eq_true (.inr h5))
              rw [h5] at y0
              clear h2 h2' h5
              by_cases hl : kk.un < z
              · skip
                go_wp2
                go_roundw
                case rel => exact ⟨k + 1, kk.un, true, by omega, rfl, rfl, by go_num, Lib.hid (by rw [ST.out]; unfold Rn.lstep; rw [if_pos TT.out]; simp only [if_pos hl]; exact ⟨rfl, rfl⟩), B1⟩
                case measure => simp [intOf]; omega
              · have hl' : decide (kk.un < z) = false := decide_eq_false hl
                go_wp2
                go_roundw
                case rel => exact ⟨k + 1, z, true, by omega, rfl, rfl, by go_num, Lib.hid (by rw [ST.out]; unfold Rn.lstep; rw [if_pos TT.out]; simp only [if_neg hl]; exact ⟨rfl, rfl⟩), B1⟩
                case measure => simp [intOf]; omega
            · have TT : Hid (Rn.timed kk = false) := Lib.hid (decide_eq_false fun h => by rcases h with h | h; exact h2 h; exact h5 h)
              have h5' : (kk.ph != 5) = true := by simpa using h5
              go_wp2
              go_roundw
              case rel => exact ⟨k + 1, z, true, by omega, rfl, rfl, by go_num, Lib.hid (by rw [ST.out]; unfold Rn.lstep; rw [if_neg (by rw [TT.out]; decide)]; exact ⟨rfl, rfl⟩), B1⟩
              case measure => simp [intOf]; omega
      · obtain rfl : k = n := by omega
        have hge : ¬ (k : Int) < (k : Int) := by omega
        have RV : Hid (z = v.getD 0 ∧ o = v.isSome) := Lib.hid (by
          have h1 := HZ.out
          rw [HN.out, List.take_length, ← R.out] at h1
          exact h1)
        go_wp2
        refine bodyPost_ret (v := .tuple #[.int .i64 z, .bool o]) (by simp [results, Tryd.results11, go_sem]) rfl ⟨by rw [← RV.out.1, ← RV.out.2], HW⟩
  · have R : Hid (v = none) := Lib.hid (by rw [V.out, if_neg h0])
    have h0' : (st != 0) = true := by simpa using h0
    clear V
    go_wp2
    refine bodyPost_ret (v := .tuple #[.int .i64 0, .bool false]) (by simp [results, Tryd.results11, go_sem]) rfl ⟨by rw [R.out]; rfl, B0⟩
end Go.Proofs.YtpaolgjgonghlaaDoor
/-
  Package run: slices.Equal at rows of numbers, of texts, of tasks' states.
-/
namespace Go.Proofs.YtpaolgjgonghlaaDoor
open Go.RowKit
set_option maxRecDepth 20000
def EqTo {α : Type} (l l2 : List α) (k : Nat) : Prop := l.take k = l2.take k
theorem EqTo.next {α : Type} {l l2 : List α} {k : Nat} (h : EqTo l l2 k) (h1 : k < l.length) (h2 : k < l2.length) (e : l[k] = l2[k]) : EqTo l l2 (k + 1) := by
  show l.take (k + 1) = l2.take (k + 1)
  rw [List.take_succ_eq_append_getElem h1, List.take_succ_eq_append_getElem h2, e]
  exact congrArg (· ++ _) h
theorem EqTo.done {α : Type} {l l2 : List α} {k : Nat} (h : EqTo l l2 k) (h1 : k = l.length) (h2 : k = l2.length) : l = l2 := by
  have h3 : l.take k = l2.take k := h
  rwa [h1, List.take_length, ← h1, h2, List.take_length] at h3
theorem at_ne {α : Type} {l l2 : List α} {k : Nat} (h1 : k < l.length) (h2 : k < l2.length) (e : l[k] ≠ l2[k]) : l ≠ l2 := by
  intro h
  subst h
  exact e rfl
set_option maxHeartbeats 1000000 in
theorem equalI_p (A B : Option Addr) (l l2 : List Int) (n m c c2 : Nat) (hn : n = l.length) (hm : m = l2.length) (h9 : n ≤ 1100) (w : World) (O O2 : Nat → Prop) (h : ZsO w O A l) (h2 : ZsO w O2 B l2) :
    Calls Tryd.prog 53 #[.slice A n c, .slice B m c2] w (BoolG w (decide (l = l2))) := by
  have H1 := Lib.hid h
  have H2 := Lib.hid h2
  have HN := Lib.hid hn
  have HM := Lib.hid hm
  obtain ⟨v, hv⟩ : ∃ v, v = decide (l = l2) := ⟨_, rfl⟩
  have V := Lib.hid hv
  rw [← hv]
  clear h h2 hn hm hv
  by_cases hl : n = m
  · subst hl
    go_enter Tryd.func53, Tryd.ntmps53
    go_wp2
    go_loopw [13] (fun iv wr => ∃ k : Nat, k ≤ n ∧ iv = .int .i64 k ∧ Hid (EqTo l l2 k) ∧ Hid (Below w.heap.size w wr)) (fun iv _ => n - (intOf iv).toNat)
    case atStart => exact ⟨0, Nat.zero_le _, rfl, Lib.hid rfl, Lib.hid (Below.refl _ _)⟩
    case round =>
      obtain ⟨k, hk, rfl, HK, HB⟩ := hrel
      by_cases hlt : k < n
      · have hlt' : (k : Int) < (n : Int) := by omega
        have K1 : Hid (k < l.length) := Lib.hid (by rw [← HN.out]; exact hlt)
        have K2 : Hid (k < l2.length) := Lib.hid (by rw [← HM.out]; exact hlt)
        obtain ⟨b1, o1, rfl, -, hb1, hc1⟩ := H1.out.2 (by rw [← HN.out]; omega)
        have hq1 := hc1 k K1.out
        clear hc1
        dsimp only at hq1
        rw [getD_at K1.out] at hq1
        obtain ⟨z1, E1⟩ : ∃ z, Hid (z = l[k]'K1.out) := ⟨_, Lib.hid rfl⟩
        rw [← E1.out] at hq1
        have p1 : w.cell? ⟨b1, o1 + k, none⟩ = some (.int .i64 z1) := by simpa using hq1
        have q1 := (HB.out.cell (block_lt p1)).trans p1
        clear p1 hq1 hb1
        obtain ⟨b2, o2, rfl, -, hb2, hc2⟩ := H2.out.2 (by rw [← HM.out]; omega)
        have hq2 := hc2 k K2.out
        clear hc2
        dsimp only at hq2
        rw [getD_at K2.out] at hq2
        obtain ⟨z2, E2⟩ : ∃ z, Hid (z = l2[k]'K2.out) := ⟨_, Lib.hid rfl⟩
        rw [← E2.out] at hq2
        have p2 : w.cell? ⟨b2, o2 + k, none⟩ = some (.int .i64 z2) := by simpa using hq2
        have q2 := (HB.out.cell (block_lt p2)).trans p2
        clear p2 hq2 hb2
        have BN : ∀ nq, Hid (Below w.heap.size w (wr.drewN nq)) := fun nq => Lib.hid (below_n HB.out nq)
        by_cases e : z1 = z2
        · have R := Lib.hid (HK.out.next K1.out K2.out (by rw [← E1.out, ← E2.out, e]))
          clear E1 E2
          subst e
          go_wp2_with fail
          go_quiet (fail)
          go_wp2
          go_roundw
          case rel => exact ⟨k + 1, by omega, by go_num, R, BN _⟩
          case measure => simp [intOf]; omega
        · have R : Hid (v = false) := Lib.hid (by rw [V.out]; exact decide_eq_false (at_ne K1.out K2.out (by rw [← E1.out, ← E2.out]; exact e)))
          have e' : (z1 != z2) = true := by simpa using e
          clear E1 E2
          go_wp2_with fail
          go_quiet (fail)
          go_wp2
          go_ret
          exact ⟨ret_bool R.out.symm, BN _⟩
      · obtain rfl : k = n := by omega
        have hge : ¬ (k : Int) < (k : Int) := by omega
        have R : Hid (v = true) := Lib.hid (by rw [V.out]; exact decide_eq_true (HK.out.done HN.out HM.out))
        go_wp2
        go_ret
        exact ⟨ret_bool R.out.symm, HB⟩
  · have R : Hid (v = false) := Lib.hid (by rw [V.out]; exact decide_eq_false fun e => hl (by rw [HN.out, HM.out, e]))
    have hl' : ((n : Int) != (m : Int)) = true := by simp; omega
    go_enter Tryd.func53, Tryd.ntmps53
    go_wp2
    go_ret
    exact ⟨ret_bool R.out.symm, Lib.hid (Below.refl _ _)⟩
set_option maxHeartbeats 1000000 in
theorem equalS_p (A B : Option Addr) (l l2 : List Tx.T) (n m c c2 : Nat) (hn : n = l.length) (hm : m = l2.length) (h9 : n ≤ 1100) (w : World) (O O2 : Nat → Prop) (h : SigsO w O A l) (h2 : SigsO w O2 B l2) :
    Calls Tryd.prog 33 #[.slice A n c, .slice B m c2] w (BoolG w (decide (l = l2))) := by
  have H1 := Lib.hid h
  have H2 := Lib.hid h2
  have HN := Lib.hid hn
  have HM := Lib.hid hm
  obtain ⟨v, hv⟩ : ∃ v, v = decide (l = l2) := ⟨_, rfl⟩
  have V := Lib.hid hv
  rw [← hv]
  clear h h2 hn hm hv
  by_cases hl : n = m
  · subst hl
    go_enter Tryd.func33, Tryd.ntmps33
    go_wp2
    go_loopw [13] (fun iv wr => ∃ k : Nat, k ≤ n ∧ iv = .int .i64 k ∧ Hid (EqTo l l2 k) ∧ Hid (Below w.heap.size w wr)) (fun iv _ => n - (intOf iv).toNat)
    case atStart => exact ⟨0, Nat.zero_le _, rfl, Lib.hid rfl, Lib.hid (Below.refl _ _)⟩
    case round =>
      obtain ⟨k, hk, rfl, HK, HB⟩ := hrel
      by_cases hlt : k < n
      · have hlt' : (k : Int) < (n : Int) := by omega
        have K1 : Hid (k < l.length) := Lib.hid (by rw [← HN.out]; exact hlt)
        have K2 : Hid (k < l2.length) := Lib.hid (by rw [← HM.out]; exact hlt)
        obtain ⟨b1, o1, rfl, -, hb1, hc1⟩ := H1.out (by rw [← HN.out]; omega)
        have hq1 := hc1 k K1.out
        clear hc1
        dsimp only at hq1
        rw [getD_at K1.out] at hq1
        obtain ⟨z1, E1⟩ : ∃ z, Hid (z = l[k]'K1.out) := ⟨_, Lib.hid rfl⟩
        rw [← E1.out] at hq1
        have p1 : w.cell? ⟨b1, o1 + k, none⟩ = some (.string (str z1)) := by simpa using hq1
        have q1 := (HB.out.cell (block_lt p1)).trans p1
        clear p1 hq1 hb1
        obtain ⟨b2, o2, rfl, -, hb2, hc2⟩ := H2.out (by rw [← HM.out]; omega)
        have hq2 := hc2 k K2.out
        clear hc2
        dsimp only at hq2
        rw [getD_at K2.out] at hq2
        obtain ⟨z2, E2⟩ : ∃ z, Hid (z = l2[k]'K2.out) := ⟨_, Lib.hid rfl⟩
        rw [← E2.out] at hq2
        have p2 : w.cell? ⟨b2, o2 + k, none⟩ = some (.string (str z2)) := by simpa using hq2
        have q2 := (HB.out.cell (block_lt p2)).trans p2
        clear p2 hq2 hb2
        have BN : ∀ nq, Hid (Below w.heap.size w (wr.drewN nq)) := fun nq => Lib.hid (below_n HB.out nq)
        by_cases e : z1 = z2
        · have R := Lib.hid (HK.out.next K1.out K2.out (by rw [← E1.out, ← E2.out, e]))
          clear E1 E2
          subst e
          have e' : ((str z1).toList == (str z1).toList) = true := by simp
          go_wp2_with fail
          go_quiet (fail)
          go_wp2
          go_roundw
          case rel => exact ⟨k + 1, by omega, by go_num, R, BN _⟩
          case measure => simp [intOf]; omega
        · have R : Hid (v = false) := Lib.hid (by rw [V.out]; exact decide_eq_false (at_ne K1.out K2.out (by rw [← E1.out, ← E2.out]; exact e)))
          have e' : ((str z1).toList == (str z2).toList) = false := bs_ne fun h => e (str_inj.1 h)
          clear E1 E2
          go_wp2_with fail
          go_quiet (fail)
          go_wp2
          go_ret
          exact ⟨ret_bool R.out.symm, BN _⟩
      · obtain rfl : k = n := by omega
        have hge : ¬ (k : Int) < (k : Int) := by omega
        have R : Hid (v = true) := Lib.hid (by rw [V.out]; exact decide_eq_true (HK.out.done HN.out HM.out))
        go_wp2
        go_ret
        exact ⟨ret_bool R.out.symm, HB⟩
  · have R : Hid (v = false) := Lib.hid (by rw [V.out]; exact decide_eq_false fun e => hl (by rw [HN.out, HM.out, e]))
    have hl' : ((n : Int) != (m : Int)) = true := by simp; omega
    go_enter Tryd.func33, Tryd.ntmps33
    go_wp2
    go_ret
    exact ⟨ret_bool R.out.symm, Lib.hid (Below.refl _ _)⟩
set_option maxHeartbeats 1000000 in
theorem equalT_p (A B : Option Addr) (l l2 : List Rn.Tk) (n m c c2 : Nat) (hn : n = l.length) (hm : m = l2.length) (h9 : n ≤ 1100) (d1 : ∀ k ∈ l, k.da.length ≤ 9223372036854775807) (d2 : ∀ k ∈ l2, k.da.length ≤ 9223372036854775807) (w : World) (O O2 : Nat → Prop) (h : TksO w O A l) (h2 : TksO w O2 B l2) :
    Calls Tryd.prog 32 #[.slice A n c, .slice B m c2] w (BoolG w (decide (l = l2))) := by
  have H1 := Lib.hid h
  have H2 := Lib.hid h2
  have HN := Lib.hid hn
  have HM := Lib.hid hm
  have D1 := Lib.hid d1
  have D2 := Lib.hid d2
  clear d1 d2
  obtain ⟨v, hv⟩ : ∃ v, v = decide (l = l2) := ⟨_, rfl⟩
  have V := Lib.hid hv
  rw [← hv]
  clear h h2 hn hm hv
  by_cases hl : n = m
  · subst hl
    go_enter Tryd.func32, Tryd.ntmps32
    go_wp2
    go_loopw [13] (fun iv wr => ∃ k : Nat, k ≤ n ∧ iv = .int .i64 k ∧ Hid (EqTo l l2 k) ∧ Hid (Below w.heap.size w wr)) (fun iv _ => n - (intOf iv).toNat)
    case atStart => exact ⟨0, Nat.zero_le _, rfl, Lib.hid rfl, Lib.hid (Below.refl _ _)⟩
    case round =>
      obtain ⟨k, hk, rfl, HK, HB⟩ := hrel
      by_cases hlt : k < n
      · have hlt' : (k : Int) < (n : Int) := by omega
        have K1 : Hid (k < l.length) := Lib.hid (by rw [← HN.out]; exact hlt)
        have K2 : Hid (k < l2.length) := Lib.hid (by rw [← HM.out]; exact hlt)
        obtain ⟨b1, o1, rfl, -, hb1, hc1⟩ := H1.out.2 (by rw [← HN.out]; omega)
        have hq1 := hc1 k K1.out
        clear hc1
        dsimp only at hq1
        rw [getD_at K1.out] at hq1
        obtain ⟨z1, E1⟩ : ∃ z, Hid (z = l[k]'K1.out) := ⟨_, Lib.hid rfl⟩
        have I1 : Hid (tkIn z1) := Lib.hid (by rw [E1.out]; exact H1.out.1 _ (List.getElem_mem _))
        have J1 : Hid (z1.da.length ≤ 9223372036854775807) := Lib.hid (by rw [E1.out]; exact D1.out _ (List.getElem_mem _))
        rw [← E1.out] at hq1
        have s10 : w.cell? ⟨b1, o1 + k * 4, none⟩ = some (.int .i64 z1.ph) := hq1.1
        have s11 : w.cell? ⟨b1, o1 + k * 4 + 1, none⟩ = some (.int .i64 z1.tr) := hq1.2.1
        have s12 : w.cell? ⟨b1, o1 + k * 4 + 2, none⟩ = some (.int .i64 z1.un) := hq1.2.2.1
        have s13 : w.cell? ⟨b1, o1 + k * 4 + 3, none⟩ = some (.string (str z1.da)) := hq1.2.2.2
        have t10 := (HB.out.cell (block_lt s10)).trans s10
        have t11 := (HB.out.cell (block_lt s11)).trans s11
        have t12 := (HB.out.cell (block_lt s12)).trans s12
        have t13 := (HB.out.cell (block_lt s13)).trans s13
        clear s10 s11 s12 s13 hb1 hq1
        obtain ⟨b2, o2, rfl, -, hb2, hc2⟩ := H2.out.2 (by rw [← HM.out]; omega)
        have hq2 := hc2 k K2.out
        clear hc2
        dsimp only at hq2
        rw [getD_at K2.out] at hq2
        obtain ⟨z2, E2⟩ : ∃ z, Hid (z = l2[k]'K2.out) := ⟨_, Lib.hid rfl⟩
        have I2 : Hid (tkIn z2) := Lib.hid (by rw [E2.out]; exact H2.out.1 _ (List.getElem_mem _))
        have J2 : Hid (z2.da.length ≤ 9223372036854775807) := Lib.hid (by rw [E2.out]; exact D2.out _ (List.getElem_mem _))
        rw [← E2.out] at hq2
        have s20 : w.cell? ⟨b2, o2 + k * 4, none⟩ = some (.int .i64 z2.ph) := hq2.1
        have s21 : w.cell? ⟨b2, o2 + k * 4 + 1, none⟩ = some (.int .i64 z2.tr) := hq2.2.1
        have s22 : w.cell? ⟨b2, o2 + k * 4 + 2, none⟩ = some (.int .i64 z2.un) := hq2.2.2.1
        have s23 : w.cell? ⟨b2, o2 + k * 4 + 3, none⟩ = some (.string (str z2.da)) := hq2.2.2.2
        have t20 := (HB.out.cell (block_lt s20)).trans s20
        have t21 := (HB.out.cell (block_lt s21)).trans s21
        have t22 := (HB.out.cell (block_lt s22)).trans s22
        have t23 := (HB.out.cell (block_lt s23)).trans s23
        clear s20 s21 s22 s23 hb2 hq2
        have BN : ∀ nq, Hid (Below w.heap.size w (wr.drewN nq)) := fun nq => Lib.hid (below_n HB.out nq)
        by_cases e : z1 = z2
        · have R := Lib.hid (HK.out.next K1.out K2.out (by rw [← E1.out, ← E2.out, e]))
          clear E1 E2
          subst e
          have NQ : ∀ W, (binOp .neq 42 (.agg #[.int .i64 z1.ph, .int .i64 z1.tr, .int .i64 z1.un, .string (str z1.da)]) (.agg #[.int .i64 z1.ph, .int .i64 z1.tr, .int .i64 z1.un, .string (str z1.da)])).run Tryd.prog W = .ok (.bool false) W := fun W => by have := tk_neq z1 z1 I1.out I1.out J1.out J1.out W; rw [decide_eq_true rfl] at this; exact this
          go_wp2_with fail
          go_quiet (fail)
          go_wp2
          go_roundw
          case rel => exact ⟨k + 1, by omega, by go_num, R, BN _⟩
          case measure => simp [intOf]; omega
        · have R : Hid (v = false) := Lib.hid (by rw [V.out]; exact decide_eq_false (at_ne K1.out K2.out (by rw [← E1.out, ← E2.out]; exact e)))
          have NQ : ∀ W, (binOp .neq 42 (.agg #[.int .i64 z1.ph, .int .i64 z1.tr, .int .i64 z1.un, .string (str z1.da)]) (.agg #[.int .i64 z2.ph, .int .i64 z2.tr, .int .i64 z2.un, .string (str z2.da)])).run Tryd.prog W = .ok (.bool true) W := fun W => by have := tk_neq z1 z2 I1.out I2.out J1.out J2.out W; rw [decide_eq_false e] at this; exact this
          clear E1 E2
          go_wp2_with fail
          go_quiet (fail)
          go_wp2
          go_ret
          exact ⟨ret_bool R.out.symm, BN _⟩
      · obtain rfl : k = n := by omega
        have hge : ¬ (k : Int) < (k : Int) := by omega
        have R : Hid (v = true) := Lib.hid (by rw [V.out]; exact decide_eq_true (HK.out.done HN.out HM.out))
        go_wp2
        go_ret
        exact ⟨ret_bool R.out.symm, HB⟩
  · have R : Hid (v = false) := Lib.hid (by rw [V.out]; exact decide_eq_false fun e => hl (by rw [HN.out, HM.out, e]))
    have hl' : ((n : Int) != (m : Int)) = true := by simp; omega
    go_enter Tryd.func32, Tryd.ntmps32
    go_wp2
    go_ret
    exact ⟨ret_bool R.out.symm, Lib.hid (Below.refl _ _)⟩
end Go.Proofs.YtpaolgjgonghlaaDoor
