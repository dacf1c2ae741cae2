/-
  Part 22 of the texts behind the law: RnSame, DfParse.
-/
import Derived.Test.YtpaolgjgonghlaaDoorRn17
import Derived.Test.YtpaolgjgonghlaaDoorRn15
import Derived.Test.YtpaolgjgonghlaaDoorRn21
import Derived.Test.YtpaolgjgonghlaaDoorRn20
/-
  Package run: isSameTask, slices.EqualFunc at tasks, Same.
-/
namespace Go.Proofs.YtpaolgjgonghlaaDoor
open Go.RowKit
set_option maxRecDepth 20000
theorem task_eq (a b : Df.Task) : a = b ↔ a.name = b.name ∧ a.after = b.after ∧ a.retry = b.retry ∧ a.wait = b.wait ∧ a.base = b.base ∧ a.on = b.on := by
  constructor
  · rintro rfl; exact ⟨rfl, rfl, rfl, rfl, rfl, rfl⟩
  · obtain ⟨a1, a2, a3, a4, a5, a6⟩ := a
    obtain ⟨b1, b2, b3, b4, b5, b6⟩ := b
    rintro ⟨h1, h2, h3, h4, h5, h6⟩
    simp only at *
    subst h1 h2 h3 h4 h5 h6
    rfl
theorem run_eq (a b : Rn.R) : a = b ↔ a.d = b.d ∧ a.st = b.st ∧ a.ts = b.ts ∧ a.sg = b.sg := by
  constructor
  · rintro rfl; exact ⟨rfl, rfl, rfl, rfl⟩
  · obtain ⟨a1, a2, a3, a4⟩ := a
    obtain ⟨b1, b2, b3, b4⟩ := b
    rintro ⟨h1, h2, h3, h4⟩
    simp only at *
    subst h1 h2 h3 h4
    rfl
theorem str_beq {a b : Tx.T} (h : a = b) : ((str a).toList == (str b).toList) = true := by rw [h]; simp
theorem str_bne {a b : Tx.T} (h : ¬ a = b) : ((str a).toList == (str b).toList) = false := bs_ne fun e => h (str_inj.1 e)
set_option maxHeartbeats 2000000 in
theorem sameTask_p (a b : Df.Task) (A B : Option Addr) (c1 c2 : Nat) (h9 : a.after.length ≤ 1100) (w : World) (O O2 : Nat → Prop) (ha : ZsO w O A a.after) (hb : ZsO w O2 B b.after) :
    Calls Tryd.prog 35 #[.agg #[.string (str a.name), .slice A a.after.length c1, .int .i64 a.retry, .int .i64 a.wait, .int .i64 a.base, .string (str a.on)], .agg #[.string (str b.name), .slice B b.after.length c2, .int .i64 b.retry, .int .i64 b.wait, .int .i64 b.base, .string (str b.on)]] w (BoolG w (decide (a = b))) := by
  have EQ := Lib.hid (task_eq a b)
  have CE : Hid (∀ W n m, Below w.heap.size w W → n = a.after.length → m = b.after.length → Calls Tryd.prog 53 #[.slice A n c1, .slice B m c2] W (BoolG W (decide (a.after = b.after)))) := Lib.hid fun W n m h hn hm =>
    equalI_p A B a.after b.after n m c1 c2 hn hm (by rw [hn]; exact h9) W O O2 (ha.keep h.size fun k _ hl => h.block k hl) (hb.keep h.size fun k _ hl => h.block k hl)
  obtain ⟨v, hv⟩ : ∃ v, v = decide (a = b) := ⟨_, rfl⟩
  have V := Lib.hid hv
  rw [← hv]
  obtain ⟨n, hn⟩ : ∃ n, n = a.after.length := ⟨_, rfl⟩
  obtain ⟨m, hm⟩ : ∃ m, m = b.after.length := ⟨_, rfl⟩
  rw [← hn, ← hm]
  have HN := Lib.hid hn
  have HM := Lib.hid hm
  clear hv ha hb hn hm h9
  obtain ⟨W0, hW0⟩ : ∃ W0, W0 = (w.alloc (.cells #[.string (str a.name), .slice A n c1, .int .i64 a.retry, .int .i64 a.wait, .int .i64 a.base, .string (str a.on)] 48)).alloc (.cells #[.string (str b.name), .slice B m c2, .int .i64 b.retry, .int .i64 b.wait, .int .i64 b.base, .string (str b.on)] 48) := ⟨_, rfl⟩
  have B0 : Hid (Below w.heap.size w W0) := Lib.hid (by rw [hW0]; exact box2 _ _ _)
  have X0 : Hid (W0.heap[w.heap.size]? = some (.cells #[.string (str a.name), .slice A n c1, .int .i64 a.retry, .int .i64 a.wait, .int .i64 a.base, .string (str a.on)] 48 (0, 0))) := Lib.hid (by rw [hW0]; exact box0' _ _ _)
  have Y0 : Hid (W0.heap[w.heap.size + 1]? = some (.cells #[.string (str b.name), .slice B m c2, .int .i64 b.retry, .int .i64 b.wait, .int .i64 b.base, .string (str b.on)] 48 (0, 0))) := Lib.hid (by rw [hW0]; exact box1 _ _ _)
  obtain ⟨x0, x1, x2, x3, x4, x5⟩ := ob6 X0.out
  obtain ⟨y0, y1, y2, y3, y4, y5⟩ := ob6 Y0.out
  generalize a.retry = r1 at *
  generalize a.wait = q1 at *
  generalize a.base = s1 at *
  generalize b.retry = r2 at *
  generalize b.wait = q2 at *
  generalize b.base = s2 at *
  go_enter Tryd.func35, Tryd.ntmps35
  go_upto_region 1 with (fail)
  rw [← hW0]
  clear hW0
  by_cases e0 : a.name = b.name
  · have t0 := str_beq e0
    go_wp2_with fail
    (with_reducible refine (CE.out W0 n m B0.out HN.out HM.out).mono ?_); rintro e W1 ⟨rfl, b1⟩
    have B1 : Hid (Below w.heap.size w W1) := Lib.hid (B0.out.trans (b1.out.mono B0.out.size))
    have X1 := (b1.out.block _ (lt_of_block X0.out)).trans X0.out
    have Y1 := (b1.out.block _ (lt_of_block Y0.out)).trans Y0.out
    clear x0 x1 x2 x3 x4 x5 y0 y1 y2 y3 y4 y5
    obtain ⟨x0, x1, x2, x3, x4, x5⟩ := ob6 X1
    obtain ⟨y0, y1, y2, y3, y4, y5⟩ := ob6 Y1
    clear X1 Y1
    by_cases e1 : a.after = b.after
    · rw [decide_eq_true e1]
      have E1 := Lib.hid e1
      have E0 := Lib.hid e0
      clear e1 e0
      by_cases e2 : r1 = r2
      · subst e2
        by_cases e3 : q1 = q2
        · subst e3
          by_cases e4 : s1 = s2
          · subst e4
            by_cases e5 : a.on = b.on
            · have t5 := str_beq e5
              have R : Hid (v = true) := Lib.hid (by rw [V.out]; exact decide_eq_true (EQ.out.2 ⟨E0.out, E1.out, by simp, by simp, by simp, e5⟩))
              clear EQ V
              go_wp2
              go_ret
              exact ⟨ret_bool R.out.symm, B1⟩
            · have t5 := str_bne e5
              have R : Hid (v = false) := Lib.hid (by rw [V.out]; exact decide_eq_false fun e => e5 (EQ.out.1 e).2.2.2.2.2)
              clear EQ V
              go_wp2
              go_ret
              exact ⟨ret_bool R.out.symm, B1⟩
          · have t4 : (s1 == s2) = false := by simpa using e4
            have R : Hid (v = false) := Lib.hid (by rw [V.out]; exact decide_eq_false fun e => e4 (EQ.out.1 e).2.2.2.2.1)
            clear EQ V
            go_wp2
            go_ret
            exact ⟨ret_bool R.out.symm, B1⟩
        · have t3 : (q1 == q2) = false := by simpa using e3
          have R : Hid (v = false) := Lib.hid (by rw [V.out]; exact decide_eq_false fun e => e3 (EQ.out.1 e).2.2.2.1)
          clear EQ V
          go_wp2
          go_ret
          exact ⟨ret_bool R.out.symm, B1⟩
      · have t2 : (r1 == r2) = false := by simpa using e2
        have R : Hid (v = false) := Lib.hid (by rw [V.out]; exact decide_eq_false fun e => e2 (EQ.out.1 e).2.2.1)
        clear EQ V
        go_wp2
        go_ret
        exact ⟨ret_bool R.out.symm, B1⟩
    · rw [decide_eq_false e1]
      have R : Hid (v = false) := Lib.hid (by rw [V.out]; exact decide_eq_false fun e => e1 (EQ.out.1 e).2.1)
      clear EQ V
      go_wp2
      go_ret
      exact ⟨ret_bool R.out.symm, B1⟩
  · have t0 := str_bne e0
    have R : Hid (v = false) := Lib.hid (by rw [V.out]; exact decide_eq_false fun e => e0 (EQ.out.1 e).1)
    clear EQ V
    go_wp2
    go_ret
    exact ⟨ret_bool R.out.symm, B0⟩
set_option maxHeartbeats 2000000 in
theorem equalD_p (A B : Option Addr) (l l2 : Df.D) (n m c c2 : Nat) (hn : n = l.length) (hm : m = l2.length) (hf : Fair l) (w : World) (O O2 : Nat → Prop) (h : DefO w O A l) (h2 : DefO w O2 B l2) :
    Calls Tryd.prog 34 #[.slice A n c, .slice B m c2, .func (.func 35) #[] #[]] w (BoolG w (decide (l = l2))) := by
  have H1 := Lib.hid h
  have H2 := Lib.hid h2
  have HN := Lib.hid hn
  have HM := Lib.hid hm
  have HF := Lib.hid hf
  have h9 : n ≤ 1100 := by rw [hn]; exact hf.1
  obtain ⟨v, hv⟩ : ∃ v, v = decide (l = l2) := ⟨_, rfl⟩
  have V := Lib.hid hv
  rw [← hv]
  clear h h2 hn hm hv hf
  by_cases hl : n = m
  · subst hl
    go_enter Tryd.func34, Tryd.ntmps34
    go_wp2
    go_loopw [17] (fun iv wr => ∃ k : Nat, k ≤ n ∧ iv = .int .i64 k ∧ Hid (EqTo l l2 k) ∧ Hid (Below w.heap.size w wr)) (fun iv _ => n - (intOf iv).toNat)
    case atStart => exact ⟨0, Nat.zero_le _, rfl, Lib.hid rfl, Lib.hid (Below.refl _ _)⟩
    case round =>
      obtain ⟨k, hk, rfl, HK, HB⟩ := hrel
      by_cases hlt : k < n
      · have hlt' : (k : Int) < (n : Int) := by omega
        have K1 : Hid (k < l.length) := Lib.hid (by rw [← HN.out]; exact hlt)
        have K2 : Hid (k < l2.length) := Lib.hid (by rw [← HM.out]; exact hlt)
        obtain ⟨g1, o1, A1, d1, t1, rfl, -, ht1, z1, -, -, x0, x1, x2, x3, x4, x5⟩ := (H1.out.keep HB.out.size fun b _ hl => HB.out.block b hl).at_ K1.out
        obtain ⟨g2, o2, A2, d2, t2, rfl, -, ht2, z2, -, -, y0, y1, y2, y3, y4, y5⟩ := (H2.out.keep HB.out.size fun b _ hl => HB.out.block b hl).at_ K2.out
        have E1 : Hid (t1 = l[k]'K1.out) := Lib.hid (by have := ht1.out; rw [List.getElem?_eq_getElem K1.out] at this; exact (Option.some.inj this).symm)
        have E2 : Hid (t2 = l2[k]'K2.out) := Lib.hid (by have := ht2.out; rw [List.getElem?_eq_getElem K2.out] at this; exact (Option.some.inj this).symm)
        have L1 : Hid (t1.after.length ≤ 1100) := Lib.hid (by rw [E1.out]; exact (HF.out.2 _ (List.getElem_mem _)).1)
        have CS : Hid (∀ W n m, Below wr.heap.size wr W → n = t1.after.length → m = t2.after.length → Calls Tryd.prog 35 #[.agg #[.string (str t1.name), .slice A1 n d1, .int .i64 t1.retry, .int .i64 t1.wait, .int .i64 t1.base, .string (str t1.on)], .agg #[.string (str t2.name), .slice A2 m d2, .int .i64 t2.retry, .int .i64 t2.wait, .int .i64 t2.base, .string (str t2.on)]] W (BoolG W (decide (t1 = t2)))) := Lib.hid fun W n m hW hn hm => by
          rw [hn, hm]
          exact sameTask_p t1 t2 A1 A2 d1 d2 L1.out W _ _ (z1.out.keep hW.size fun b _ hl => hW.block b hl) (z2.out.keep hW.size fun b _ hl => hW.block b hl)
        clear ht1 ht2 z1 z2 L1
        obtain ⟨n1, hn1⟩ : ∃ n1, n1 = t1.after.length := ⟨_, rfl⟩
        obtain ⟨n2, hn2⟩ : ∃ n2, n2 = t2.after.length := ⟨_, rfl⟩
        rw [← hn1] at x1
        rw [← hn2] at y1
        have N1 := Lib.hid hn1
        have N2 := Lib.hid hn2
        clear hn1 hn2
        obtain ⟨W1, hW1⟩ : ∃ W1, W1 = (wr.alloc (.cells #[.string (str t1.name), .slice A1 n1 d1, .int .i64 t1.retry, .int .i64 t1.wait, .int .i64 t1.base, .string (str t1.on)] 48)).alloc (.cells #[.string (str t2.name), .slice A2 n2 d2, .int .i64 t2.retry, .int .i64 t2.wait, .int .i64 t2.base, .string (str t2.on)] 48) := ⟨_, rfl⟩
        have BB : Hid (Below wr.heap.size wr W1) := Lib.hid (by rw [hW1]; exact box2 _ _ _)
        have X1 : Hid (W1.heap[wr.heap.size]? = some (.cells #[.string (str t1.name), .slice A1 n1 d1, .int .i64 t1.retry, .int .i64 t1.wait, .int .i64 t1.base, .string (str t1.on)] 48 (0, 0))) := Lib.hid (by rw [hW1]; exact box0' _ _ _)
        have Y1 : Hid (W1.heap[wr.heap.size + 1]? = some (.cells #[.string (str t2.name), .slice A2 n2 d2, .int .i64 t2.retry, .int .i64 t2.wait, .int .i64 t2.base, .string (str t2.on)] 48 (0, 0))) := Lib.hid (by rw [hW1]; exact box1 _ _ _)
        have AL := fun (o : Nat) (v : Value) (hc : wr.cell? ⟨g2, o, none⟩ = some v) => (((Below.refl wr.heap.size wr).alloc (Nat.le_refl _) (.cells #[.string (str t1.name), .slice A1 n1 d1, .int .i64 t1.retry, .int .i64 t1.wait, .int .i64 t1.base, .string (str t1.on)] 48)).cell (block_lt hc)).trans hc
        have Z0 := AL _ _ y0
        have Z1 := AL _ _ y1
        have Z2 := AL _ _ y2
        have Z3 := AL _ _ y3
        have Z4 := AL _ _ y4
        have Z5 := AL _ _ y5
        clear AL
        go_upto_region 7 with (fail)
        rw [← hW1]
        clear hW1 x0 x1 x2 x3 x4 x5 y0 y1 y2 y3 y4 y5 Z0 Z1 Z2 Z3 Z4 Z5
        obtain ⟨x0, x1, x2, x3, x4, x5⟩ := ob6 X1.out
        obtain ⟨y0, y1, y2, y3, y4, y5⟩ := ob6 Y1.out
        have BW : Hid (Below w.heap.size w W1) := Lib.hid (HB.out.trans (BB.out.mono HB.out.size))
        go_wp2_with fail
        (with_reducible refine (CS.out W1 n1 n2 BB.out N1.out N2.out).mono ?_); rintro e W2 ⟨rfl, b2⟩
        have B2 : Hid (Below w.heap.size w W2) := Lib.hid (BW.out.trans (b2.out.mono BW.out.size))
        by_cases e : t1 = t2
        · rw [decide_eq_true e]
          have R := Lib.hid (HK.out.next K1.out K2.out (by rw [← E1.out, ← E2.out, e]))
          clear E1 E2 e
          go_wp2
          go_roundw
          case rel => exact ⟨k + 1, by omega, by go_num, R, B2⟩
          case measure => simp [intOf]; omega
        · rw [decide_eq_false e]
          have R : Hid (v = false) := Lib.hid (by rw [V.out]; exact decide_eq_false (at_ne K1.out K2.out (by rw [← E1.out, ← E2.out]; exact e)))
          clear E1 E2 e
          go_wp2
          go_ret
          exact ⟨ret_bool R.out.symm, B2⟩
      · obtain rfl : k = n := by omega
        have hge : ¬ (k : Int) < (k : Int) := by omega
        have R : Hid (v = true) := Lib.hid (by rw [V.out]; exact decide_eq_true (HK.out.done HN.out HM.out))
        go_wp2
        go_ret
        exact ⟨ret_bool R.out.symm, HB⟩
  · have R : Hid (v = false) := Lib.hid (by rw [V.out]; exact decide_eq_false fun e => hl (by rw [HN.out, HM.out, e]))
    have hl' : ((n : Int) != (m : Int)) = true := by simp; omega
    go_enter Tryd.func34, Tryd.ntmps34
    go_wp2
    go_ret
    exact ⟨ret_bool R.out.symm, Lib.hid (Below.refl _ _)⟩
set_option maxHeartbeats 2000000 in
theorem same_p (p : At3) (r : Rn.R) (hI : Rn.Inv r) (w : World) (O : Nat → Prop) (h : RunO w O p r) (q : At3) (x : Rn.R) (hX : Rn.Inv x) (hx : RunO w O q x) :
    Calls Tryd.prog 19 #[rv p r, rv q x] w fun e w' => e = .returned (.bool (Rn.sameV r x)) ∧ Hid (Below w.heap.size w w') := by
  have EQ := Lib.hid (run_eq r x)
  have BG : ∀ {a : Df.D} {t : List Rn.Tk}, a.length = t.length → Df.Ok a → (∀ i (hi : i < a.length), Rn.TkOk a[i] (t.getD i Rn.t0)) → ∀ k ∈ t, k.da.length ≤ 9223372036854775807 := fun hl _ ht k hk => by
    obtain ⟨i, hi, rfl⟩ := List.getElem_of_mem hk
    have := (ht i (by omega)).big
    rw [getD_at hi] at this
    omega
  have CT : Hid (∀ W n m, Below w.heap.size w W → n = r.ts.length → m = x.ts.length → Calls Tryd.prog 32 #[.slice p.T n p.ct, .slice q.T m q.ct] W (BoolG W (decide (r.ts = x.ts)))) := Lib.hid fun W n m hb hn hm =>
    equalT_p p.T q.T r.ts x.ts n m p.ct q.ct hn hm (by rw [hn]; exact (Bd.of hI.toPre).t) (BG hI.len.symm hI.good hI.task) (BG hX.len.symm hX.good hX.task) W O O (h.on hb).t (hx.on hb).t
  have CS : Hid (∀ W n m, Below w.heap.size w W → n = r.sg.length → m = x.sg.length → Calls Tryd.prog 33 #[.slice p.S n p.cs, .slice q.S m q.cs] W (BoolG W (decide (r.sg = x.sg)))) := Lib.hid fun W n m hb hn hm =>
    equalS_p p.S q.S r.sg x.sg n m p.cs q.cs hn hm (by rw [hn]; exact (Bd.of hI.toPre).s) W O O (h.on hb).s (hx.on hb).s
  have CD : Hid (∀ W n m, Below w.heap.size w W → n = r.d.length → m = x.d.length → Calls Tryd.prog 34 #[.slice p.A n p.ca, .slice q.A m q.ca, .func (.func 35) #[] #[]] W (BoolG W (decide (r.d = x.d)))) := Lib.hid fun W n m hb hn hm =>
    equalD_p p.A q.A r.d x.d n m p.ca q.ca hn hm hI.good.fair W O O (h.on hb).d (hx.on hb).d
  clear BG
  obtain ⟨v, hv⟩ : ∃ v, v = Rn.sameV r x := ⟨_, rfl⟩
  have V : Hid (v = decide (r = x)) := Lib.hid hv
  rw [← hv]
  obtain ⟨n, hn⟩ : ∃ n, n = r.d.length := ⟨_, rfl⟩
  obtain ⟨m, hm⟩ : ∃ m, m = r.ts.length := ⟨_, rfl⟩
  obtain ⟨l, hl⟩ : ∃ l, l = r.sg.length := ⟨_, rfl⟩
  obtain ⟨n2, hn2⟩ : ∃ n, n = x.d.length := ⟨_, rfl⟩
  obtain ⟨m2, hm2⟩ : ∃ m, m = x.ts.length := ⟨_, rfl⟩
  obtain ⟨l2, hl2⟩ : ∃ l, l = x.sg.length := ⟨_, rfl⟩
  unfold rv
  rw [← hn, ← hm, ← hl, ← hn2, ← hm2, ← hl2]
  have HN := Lib.hid hn
  have HM := Lib.hid hm
  have HL := Lib.hid hl
  have HN2 := Lib.hid hn2
  have HM2 := Lib.hid hm2
  have HL2 := Lib.hid hl2
  clear hn hm hl hn2 hm2 hl2 hI h hX hx hv
  obtain ⟨W0, hW0⟩ : ∃ W0, W0 = (w.alloc (.cells #[.slice p.A n p.ca, .int .i64 r.st, .slice p.T m p.ct, .slice p.S l p.cs] 29)).alloc (.cells #[.slice q.A n2 q.ca, .int .i64 x.st, .slice q.T m2 q.ct, .slice q.S l2 q.cs] 29) := ⟨_, rfl⟩
  have B0 : Hid (Below w.heap.size w W0) := Lib.hid (by rw [hW0]; exact box2 _ _ _)
  have X0 : Hid (W0.heap[w.heap.size]? = some (.cells #[.slice p.A n p.ca, .int .i64 r.st, .slice p.T m p.ct, .slice p.S l p.cs] 29 (0, 0))) := Lib.hid (by rw [hW0]; exact box0' _ _ _)
  have Y0 : Hid (W0.heap[w.heap.size + 1]? = some (.cells #[.slice q.A n2 q.ca, .int .i64 x.st, .slice q.T m2 q.ct, .slice q.S l2 q.cs] 29 (0, 0))) := Lib.hid (by rw [hW0]; exact box1 _ _ _)
  obtain ⟨⟨x0, x1, x2, x3⟩, -⟩ := obj4 X0.out
  obtain ⟨⟨y0, y1, y2, y3⟩, -⟩ := obj4 Y0.out
  generalize r.st = s1 at *
  generalize x.st = s2 at *
  go_enter Tryd.func19, Tryd.ntmps19
  go_upto_region 1 with (fail)
  rw [← hW0]
  clear hW0
  by_cases e0 : s1 = s2
  · subst e0
    go_wp2_with fail
    (with_reducible refine (CT.out W0 m m2 B0.out HM.out HM2.out).mono ?_); rintro e W1 ⟨rfl, b1⟩
    have B1 : Hid (Below w.heap.size w W1) := Lib.hid (B0.out.trans (b1.out.mono B0.out.size))
    have X1 : Hid _ := Lib.hid ((b1.out.block _ (lt_of_block X0.out)).trans X0.out)
    have Y1 : Hid _ := Lib.hid ((b1.out.block _ (lt_of_block Y0.out)).trans Y0.out)
    clear x0 x1 x2 x3 y0 y1 y2 y3
    obtain ⟨⟨x0, x1, x2, x3⟩, -⟩ := obj4 X1.out
    obtain ⟨⟨y0, y1, y2, y3⟩, -⟩ := obj4 Y1.out
    by_cases e1 : r.ts = x.ts
    · rw [decide_eq_true e1]
      have E1 := Lib.hid e1
      clear e1
      go_wp2_with fail
      (with_reducible refine (CS.out W1 l l2 B1.out HL.out HL2.out).mono ?_); rintro e W2 ⟨rfl, b2⟩
      have B2 : Hid (Below w.heap.size w W2) := Lib.hid (B1.out.trans (b2.out.mono B1.out.size))
      have X2 : Hid _ := Lib.hid ((b2.out.block _ (lt_of_block X1.out)).trans X1.out)
      have Y2 : Hid _ := Lib.hid ((b2.out.block _ (lt_of_block Y1.out)).trans Y1.out)
      clear x0 x1 x2 x3 y0 y1 y2 y3
      obtain ⟨⟨x0, x1, x2, x3⟩, -⟩ := obj4 X2.out
      obtain ⟨⟨y0, y1, y2, y3⟩, -⟩ := obj4 Y2.out
      by_cases e2 : r.sg = x.sg
      · rw [decide_eq_true e2]
        have E2 := Lib.hid e2
        clear e2
        go_wp2_with fail
        (with_reducible refine (CD.out W2 n n2 B2.out HN.out HN2.out).mono ?_); rintro e W3 ⟨rfl, b3⟩
        have B3 : Hid (Below w.heap.size w W3) := Lib.hid (B2.out.trans (b3.out.mono B2.out.size))
        have X3 : Hid _ := Lib.hid ((b3.out.block _ (lt_of_block X2.out)).trans X2.out)
        have Y3 : Hid _ := Lib.hid ((b3.out.block _ (lt_of_block Y2.out)).trans Y2.out)
        clear x0 x1 x2 x3 y0 y1 y2 y3
        obtain ⟨⟨x0, x1, x2, x3⟩, -⟩ := obj4 X3.out
        obtain ⟨⟨y0, y1, y2, y3⟩, -⟩ := obj4 Y3.out
        by_cases e3 : r.d = x.d
        · rw [decide_eq_true e3]
          have R : Hid (v = true) := Lib.hid (by rw [V.out]; exact decide_eq_true (EQ.out.2 ⟨e3, by simp, E1.out, E2.out⟩))
          clear EQ V e3
          go_wp2
          go_ret
          exact ⟨ret_bool R.out.symm, B3⟩
        · rw [decide_eq_false e3]
          have R : Hid (v = false) := Lib.hid (by rw [V.out]; exact decide_eq_false fun e => e3 (EQ.out.1 e).1)
          clear EQ V
          go_wp2
          go_ret
          exact ⟨ret_bool R.out.symm, B3⟩
      · rw [decide_eq_false e2]
        have R : Hid (v = false) := Lib.hid (by rw [V.out]; exact decide_eq_false fun e => e2 (EQ.out.1 e).2.2.2)
        clear EQ V
        go_wp2
        go_ret
        exact ⟨ret_bool R.out.symm, B2⟩
    · rw [decide_eq_false e1]
      have R : Hid (v = false) := Lib.hid (by rw [V.out]; exact decide_eq_false fun e => e1 (EQ.out.1 e).2.2.1)
      clear EQ V
      go_wp2
      go_ret
      exact ⟨ret_bool R.out.symm, B1⟩
  · have t0 : (s1 == s2) = false := by simpa using e0
    have R : Hid (v = false) := Lib.hid (by rw [V.out]; exact decide_eq_false fun e => e0 (EQ.out.1 e).2.1)
    clear EQ V
    go_wp2
    go_ret
    exact ⟨ret_bool R.out.symm, B0⟩
end Go.Proofs.YtpaolgjgonghlaaDoor
/-
  Package def: Parse at every text.
-/
namespace Go.Proofs.YtpaolgjgonghlaaDoor
open Go.RowKit
theorem Df.opt_le {key : List UInt8} {ws : List (List UInt8)} {b : Nat} (h : ∀ t ∈ ws, t.length ≤ b) : (∀ t ∈ (Df.opt key ws).2, t.length ≤ b) ∧ ∀ v, (Df.opt key ws).1 = some v → v.length ≤ b := by
  cases ws with
  | nil => exact ⟨h, fun v hv => by cases hv⟩
  | cons x r =>
    rw [Df.opt_cons]
    by_cases hp : key.isPrefixOf x = true
    · rw [if_pos hp]
      refine ⟨fun t ht => h t (List.mem_cons_of_mem _ ht), fun v hv => ?_⟩
      injection hv with hv
      subst hv
      have := h x (by simp)
      rw [List.length_drop]; omega
    · rw [if_neg hp]
      exact ⟨h, fun v hv => by cases hv⟩
theorem Df.rt_small (nms ws : List (List UInt8)) (h : ∀ t ∈ ws, t.length ≤ 1024) : (Df.rt nms ws).1.after.length ≤ 1100 ∧ (Df.rt nms ws).1.name.length ≤ 1100 ∧ (Df.rt nms ws).1.on.length ≤ 1100 := by
  have hd : (ws.headD []).length ≤ 1024 := by
    cases ws with
    | nil => simp
    | cons x r => exact h x (by simp)
  have ht : ∀ t ∈ ws.tail, t.length ≤ 1024 := fun t ht => h t (List.mem_of_mem_tail ht)
  obtain ⟨a1, a2⟩ := Df.opt_le (key := Df.kA) ht
  obtain ⟨r1, -⟩ := Df.opt_le (key := Df.kR) a1
  obtain ⟨q1, -⟩ := Df.opt_le (key := Df.kW) r1
  obtain ⟨b1, -⟩ := Df.opt_le (key := Df.kB) q1
  obtain ⟨-, o2⟩ := Df.opt_le (key := Df.kO) b1
  unfold Df.rt
  simp only
  refine ⟨?_, by omega, ?_⟩
  · cases ha : (Df.opt Df.kA ws.tail).1 with
    | none => simp [Df.afterL]
    | some v =>
      have h1 := a2 v ha
      have h2 := split_len 44 v
      show (Df.idxs nms (Tx.split 44 v)).length ≤ 1100
      unfold Df.idxs
      rw [List.length_map]
      omega
  · cases ho : (Df.opt Df.kO (Df.opt Df.kB (Df.opt Df.kW (Df.opt Df.kR (Df.opt Df.kA ws.tail).2).2).2).2).1 with
    | none => simp
    | some v =>
      have := o2 v ho
      show v.length ≤ 1100
      omega
theorem Df.parse_fair {t : List UInt8} {d : Df.D} (ht : t.length ≤ 1024) (h : Df.parseD t = some d) : Fair d := by
  have hl := split_len 59 t
  rw [Df.parse_parts t (by omega)] at h
  have hlen := Tx.mapO_len h
  refine ⟨by omega, fun x hx => ?_⟩
  obtain ⟨i, hi, rfl⟩ := List.getElem_of_mem hx
  have hg := Tx.mapO_get h (i := i) (by omega) hi
  unfold Df.one at hg
  split at hg
  · injection hg with hg
    rw [← hg]
    exact Df.rt_small _ _ fun w hw => by
      have h1 := split_piece 32 _ w hw
      have h2 := split_piece 59 t _ (List.getElem_mem (by omega : i < (Tx.split 59 t).length))
      omega
  · cases hg
theorem ParseG.no {w w' : World} {r : Df.D × Int} {x : Int} (h : r = ([], x)) (hb : Below w.heap.size w w') : ParseG w r (.returned (.tuple #[.agg #[.slice none 0 0], .int .i64 x])) w' := by
  subst h
  exact ⟨none, 0, rfl, Lib.hid DefIn.nil_, Lib.hid hb⟩
theorem ParseG.yes {w w' : World} {r : Df.D × Int} {d : Df.D} {A : Option Addr} {n c : Nat} (h : r = (d, 0)) (hn : n = d.length) (hd : DefIn w' w'.heap.size A d) (hb : Below w.heap.size w w') : ParseG w r (.returned (.tuple #[.agg #[.slice A n c], .int .i64 0])) w' := by
  subst h hn
  exact ⟨A, c, rfl, Lib.hid hd, Lib.hid hb⟩
theorem ne_box {w : World} {X b o : Nat} {A : Option Addr} {n c : Nat} {t : TypeId} {u : Value} (hx : w.heap[X]? = some (.cells #[.slice A n c] t (0, 0))) (hc : w.cell? ⟨b, o, none⟩ = some u) (hu : ∀ A n c, u ≠ .slice A n c) : b ≠ X := by
  rintro rfl
  simp only [World.cell?, hx] at hc
  cases o with
  | zero =>
    have hc : some (Value.slice A n c) = some u := by simpa using hc
    injection hc with hc
    exact hu _ _ _ hc.symm
  | succ o => simp at hc
theorem cell_past {w : World} {X b o : Nat} (hb : b ≠ X) (i : Nat) (v : Value) : (w.setCell ⟨X, i, none⟩ v).cell? ⟨b, o, none⟩ = w.cell? ⟨b, o, none⟩ := by
  have : (w.setCell ⟨X, i, none⟩ v).heap[b]? = w.heap[b]? := Below.heap_setCell _ _ _ _ hb
  simp [World.cell?, this]
theorem DefIn.past {w : World} {B X : Nat} {A A0 : Option Addr} {n0 c0 : Nat} {T : TypeId} {d : Df.D} (h : DefIn w B A d) (hx : w.heap[X]? = some (.cells #[.slice A0 n0 c0] T (0, 0))) (v : Value) : DefIn (w.setCell ⟨X, 0, none⟩ v) B A d :=
  ⟨h.1, fun hn => by
    obtain ⟨b, off, e, hl, hc⟩ := h.2 hn
    refine ⟨b, off, e, hl, fun i hi => ?_⟩
    obtain ⟨A2, c2, h0, h1, h2, h3, h4, h5, h6, h7⟩ := hc i hi
    have hb : b ≠ X := ne_box hx h0 (fun _ _ _ e => by cases e)
    refine ⟨A2, c2, (cell_past hb _ _).trans h0, (cell_past hb _ _).trans h1, (cell_past hb _ _).trans h2, (cell_past hb _ _).trans h3, (cell_past hb _ _).trans h4, (cell_past hb _ _).trans h5, ⟨h6.1, fun hz => ?_⟩, h7⟩
    obtain ⟨b2, off2, e2, hl2, hc2⟩ := h6.2 hz
    have hb2 : b2 ≠ X := ne_box hx (hc2 0 hz) (fun _ _ _ e => by cases e)
    exact ⟨b2, off2, e2, hl2, fun j hj => (cell_past hb2 _ _).trans (hc2 j hj)⟩⟩
set_option maxRecDepth 20000 in
set_option maxHeartbeats 4000000 in
theorem parse_any (s : ByteArray) (hs : s.size ≤ 140737488355328) (w : World) (hF : FactsD w) : Calls Tryd.prog 18 #[.string s] w (ParseG w (Df.parse s.data.toList)) := by
  obtain ⟨X, hX⟩ : ∃ X, X = w.heap.size := ⟨_, rfl⟩
  have HX := Lib.hid hX
  obtain ⟨W1, hW1⟩ : ∃ W1, W1 = w.alloc (.cells #[.slice none 0 0] 25) := ⟨_, rfl⟩
  have P1 : Hid (W1.heap[X]? = some (.cells #[.slice none 0 0] 25 (0, 0))) := Lib.hid (by rw [hW1, hX]; exact heap_alloc_new ..)
  have B1 : Hid (Below w.heap.size w W1) := Lib.hid (by rw [hW1]; exact (Below.refl _ _).alloc (Nat.le_refl _) _)
  by_cases hl : 1024 < s.size
  · have R : Hid (Df.parse s.data.toList = ([], 14)) := Lib.hid (by unfold Df.parse; rw [if_pos (by rw [sizeB_listD]; exact hl)])
    have hl' : (1024 : Int) < (s.size : Int) := by omega
    clear hl hF
    have x0 : W1.cell? ⟨X, 0, none⟩ = some (.slice none 0 0) := by simp [World.cell?, P1.out]
    have x1 : W1.frozen? ⟨X, 0, none⟩ = false := by simp [World.frozen?, P1.out]
    have BR : Hid (Below w.heap.size w (W1.setCell ⟨X, 0, none⟩ (.slice none 0 0))) := Lib.hid (B1.out.setCell (p := ⟨X, 0, none⟩) (by rw [← HX.out]; exact Nat.le_refl X) _)
    go_enter Tryd.func18, Tryd.ntmps18
    go_upto_region 1 with fail
    rw [← hW1, ← hX]
    clear hW1 hX
    go_wp2
    exact bodyPost_ret (v := .tuple #[.agg #[.slice none 0 0], .int .i64 14]) (by simp [results, Tryd.results18, go_sem, x0]) rfl (ParseG.no R.out BR.out)
  · have hl' : ¬ (1024 : Int) < (s.size : Int) := by omega
    have hle : s.data.toList.length ≤ 1024 := by rw [sizeB_listD]; omega
    have RD := Lib.hid (readDef_any s.data.toList hle)
    rw [str_list] at RD
    have EP : Df.parse s.data.toList = match Df.parseD s.data.toList with | none => ([], 2) | some d => if Df.good d = 0 then (d, 0) else ([], Df.good d) := by
      unfold Df.parse
      rw [if_neg (by omega)]
      rfl
    have HFF := Lib.hid hF
    cases hp : Df.parseD s.data.toList with
    | none =>
      rw [hp] at RD EP
      have R : Hid (Df.parse s.data.toList = ([], 2)) := Lib.hid EP
      clear EP hp hl hle hs hF
      go_enter Tryd.func18, Tryd.ntmps18
      go_upto_region 1 with fail
      rw [← hW1, ← hX]
      clear hW1 hX
      go_wp2_with fail
      (with_reducible refine (RD.out _).mono ?_); rintro e w2 ⟨A2, c2, rfl, d2, b2⟩
      have B2 : Hid (Below w.heap.size w w2) := Lib.hid (B1.out.trans (b2.out.mono B1.out.size))
      have P2 : Hid (w2.heap[X]? = some (.cells #[.slice none 0 0] 25 (0, 0))) := Lib.hid ((b2.out.block _ (lt_of_block P1.out)).trans P1.out)
      obtain ⟨W3, hW3⟩ : ∃ W3, W3 = w2.alloc (.cells #[.slice A2 0 c2] 25) := ⟨_, rfl⟩
      have K3 : Hid (W3 = w2.alloc (.cells #[.slice A2 0 c2] 25)) := Lib.hid hW3
      have P3 : Hid (W3.heap[X]? = some (.cells #[.slice none 0 0] 25 (0, 0))) := Lib.hid (by rw [hW3, Below.heap_alloc _ _ _ (lt_of_block P2.out)]; exact P2.out)
      have x0 : W3.cell? ⟨X, 0, none⟩ = some (.slice none 0 0) := by simp [World.cell?, P3.out]
      have x1 : W3.frozen? ⟨X, 0, none⟩ = false := by simp [World.frozen?, P3.out]
      have BR : Hid (Below w.heap.size w (W3.setCell ⟨X, 0, none⟩ (.slice none 0 0))) := Lib.hid ((by rw [hW3]; exact B2.out.alloc B2.out.size _ : Below w.heap.size w W3).setCell (p := ⟨X, 0, none⟩) (by rw [← HX.out]; exact Nat.le_refl X) _)
      clear hW3 b2 d2
      go_upto_region 4 with fail
      rw [← K3.out]
      go_wp2
      exact bodyPost_ret (v := .tuple #[.agg #[.slice none 0 0], .int .i64 2]) (by simp [results, Tryd.results18, go_sem, x0]) rfl (ParseG.no R.out BR.out)
    | some d =>
      rw [hp] at RD EP
      have FR := Lib.hid (Df.parse_fair hle hp)
      obtain ⟨n, hn⟩ : ∃ n, n = d.length := ⟨_, rfl⟩
      have HN := Lib.hid hn
      have RD2 : Hid (∀ W, Calls Tryd.prog 31 #[.string s] W fun e w' => ∃ A c, e = .returned (.tuple #[.agg #[.slice A n c], .bool true]) ∧ Hid (DefIn w' w'.heap.size A d) ∧ Hid (Below W.heap.size W w')) := Lib.hid fun W => (RD.out W).mono fun e w' h => by
        obtain ⟨A, c, h1, h2, h3⟩ := h
        exact ⟨A, c, by rw [h1, hn]; rfl, h2, h3⟩
      have GD : Hid (∀ W A c, Below w.heap.size w W → DefIn W W.heap.size A d → Calls Tryd.prog 20 #[.agg #[.slice A n c]] W (IntG W (Df.good d))) := Lib.hid fun W A c hW hD => by
        have := goodD_any A d c FR.out W (HFF.out.on hW) hD
        rwa [← hn] at this
      have R0 : Hid (Df.good d = 0 → Df.parse s.data.toList = (d, 0)) := Lib.hid fun h => by rw [EP]; show (if Df.good d = 0 then (d, 0) else ([], Df.good d)) = _; rw [if_pos h]
      have R1 : Hid (Df.good d ≠ 0 → Df.parse s.data.toList = ([], Df.good d)) := Lib.hid fun h => by rw [EP]; show (if Df.good d = 0 then (d, 0) else ([], Df.good d)) = _; rw [if_neg h]
      generalize Df.good d = gd at *
      clear EP hp hl hle hs hF hn RD
      go_enter Tryd.func18, Tryd.ntmps18
      go_upto_region 1 with fail
      rw [← hW1, ← hX]
      clear hW1 hX
      go_wp2_with fail
      (with_reducible refine (RD2.out _).mono ?_); rintro e w2 ⟨A2, c2, rfl, d2, b2⟩
      have B2 : Hid (Below w.heap.size w w2) := Lib.hid (B1.out.trans (b2.out.mono B1.out.size))
      have P2 : Hid (w2.heap[X]? = some (.cells #[.slice none 0 0] 25 (0, 0))) := Lib.hid ((b2.out.block _ (lt_of_block P1.out)).trans P1.out)
      obtain ⟨Y, hY⟩ : ∃ Y, Y = w2.heap.size := ⟨_, rfl⟩
      obtain ⟨W3, hW3⟩ : ∃ W3, W3 = w2.alloc (.cells #[.slice A2 n c2] 25) := ⟨_, rfl⟩
      have K3 : Hid (W3 = w2.alloc (.cells #[.slice A2 n c2] 25)) := Lib.hid hW3
      have BA : Hid (Below w2.heap.size w2 W3) := Lib.hid (by rw [hW3]; exact (Below.refl _ _).alloc (Nat.le_refl _) _)
      have B3 : Hid (Below w.heap.size w W3) := Lib.hid (B2.out.trans (BA.out.mono B2.out.size))
      have P3 : Hid (W3.heap[X]? = some (.cells #[.slice none 0 0] 25 (0, 0))) := Lib.hid ((BA.out.block _ (lt_of_block P2.out)).trans P2.out)
      have Q3 : Hid (W3.heap[Y]? = some (.cells #[.slice A2 n c2] 25 (0, 0))) := Lib.hid (by rw [hW3, hY]; exact heap_alloc_new ..)
      have D3 : Hid (DefIn W3 W3.heap.size A2 d) := Lib.hid (d2.out.on BA.out)
      clear hW3 b2 d2
      go_upto_region 4 with fail
      rw [← K3.out, ← hY]
      clear K3 hY BA
      have y0 : W3.cell? ⟨Y, 0, none⟩ = some (.slice A2 n c2) := by simp [World.cell?, Q3.out]
      go_wp2_with fail
      (with_reducible refine (GD.out _ _ _ B3.out D3.out).mono ?_); rintro e w4 ⟨rfl, b4⟩
      have B4 : Hid (Below w.heap.size w w4) := Lib.hid (B3.out.trans (b4.out.mono B3.out.size))
      have P4 : Hid (w4.heap[X]? = some (.cells #[.slice none 0 0] 25 (0, 0))) := Lib.hid ((b4.out.block _ (lt_of_block P3.out)).trans P3.out)
      have D4 : Hid (DefIn w4 w4.heap.size A2 d) := Lib.hid (D3.out.on b4.out)
      have Q4 : Hid (w4.heap[Y]? = some (.cells #[.slice A2 n c2] 25 (0, 0))) := Lib.hid ((b4.out.block _ (lt_of_block Q3.out)).trans Q3.out)
      have y1 : w4.cell? ⟨Y, 0, none⟩ = some (.slice A2 n c2) := by simp [World.cell?, Q4.out]
      have x0 : w4.cell? ⟨X, 0, none⟩ = some (.slice none 0 0) := by simp [World.cell?, P4.out]
      have x1 : w4.frozen? ⟨X, 0, none⟩ = false := by simp [World.frozen?, P4.out]
      have XW : Hid (w.heap.size ≤ X) := Lib.hid (by rw [← HX.out]; exact Nat.le_refl X)
      clear y0 b4 D3 P3 Q3
      by_cases hg : gd = 0
      · subst hg
        have DF : Hid (DefIn (w4.setCell ⟨X, 0, none⟩ (.slice A2 n c2)) (w4.setCell ⟨X, 0, none⟩ (.slice A2 n c2)).heap.size A2 d) := Lib.hid (by
          have := D4.out.past P4.out (.slice A2 n c2)
          have e : (w4.setCell ⟨X, 0, none⟩ (.slice A2 n c2)).heap.size = w4.heap.size := by simp [World.setCell]
          rw [e]; exact this)
        have BR : Hid (Below w.heap.size w (w4.setCell ⟨X, 0, none⟩ (.slice A2 n c2))) := Lib.hid (B4.out.setCell (p := ⟨X, 0, none⟩) XW.out _)
        go_wp2
        exact bodyPost_ret (v := .tuple #[.agg #[.slice A2 n c2], .int .i64 0]) (by simp [results, Tryd.results18, go_sem, x0]) rfl (ParseG.yes (R0.out (by trivial)) HN.out DF.out BR.out)
      · have hd : (gd != 0) = true := by simpa using hg
        have GN := Lib.hid hg
        have BR : Hid (Below w.heap.size w (w4.setCell ⟨X, 0, none⟩ (.slice none 0 0))) := Lib.hid (B4.out.setCell (p := ⟨X, 0, none⟩) XW.out _)
        clear hg
        go_wp2
        exact bodyPost_ret (v := .tuple #[.agg #[.slice none 0 0], .int .i64 gd]) (by simp [results, Tryd.results18, go_sem, x0]) rfl (ParseG.no (R1.out GN.out) BR.out)
end Go.Proofs.YtpaolgjgonghlaaDoor
