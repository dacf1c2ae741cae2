/-
  Part 23 of the texts behind the law: TRnSig, TRnCan, TRnNext, TRnEqs, TRnSame.
-/
import Derived.Test.YtkbekojnmdgdgaaGreatDoorTf22
import Derived.Test.YtkbekojnmdgdgaaGreatDoorTf5
import Derived.Test.YtkbekojnmdgdgaaGreatDoorTf21
import Derived.BigQuiet
import Derived.Deep.QuietTactic
import Derived.Test.YtkbekojnmdgdgaaGreatDoorTf20
/- RnSig -/
namespace Go.Proofs.YtkbekojnmdgdgaaGreatDoor
open Go.RowKit
set_option maxRecDepth 20000
theorem Cp.sig {w W Wl W5 : World} {X Z base n m l : Nat} {st : Int} {q : At3} {r : Rn.R} (h : Cp w W X Z base q n st m l r) (hl : Below W.heap.size W Wl) {A4 : Option Addr} {cap4 : Nat} {x : Tx.T} (o4 : OwnK W5 base 9 1 A4 cap4 ((r.sg ++ [x]).map sgV))
  {l0 c0 : Nat} (g4 : Wl.grownBy W5 (Value.slice q.S l0 c0).ownBlock) (q4 : ∀ a, A4 = some a → (∃ a0, q.S = some a0 ∧ a.block = a0.block) ∨ a.block = Wl.heap.size) (l' : Nat) :
  Cp w (W5.setCell ⟨X, 3, none⟩ (.slice A4 l' cap4)) X Z base ⟨q.A, q.ca, q.T, q.ct, A4, cap4⟩ n st m l' ⟨r.d, r.st, r.ts, r.sg ++ [x]⟩ := by
 have hx := h.xb
 have hz := h.zb
 have wx := h.wx
 have hs := hl.size
 have hs2 := g4.size
 have K : ∀ b, b < W.heap.size → Off b q.S → W5.heap[b]? = W.heap[b]? := fun b k hn => (g4.block b (by omega) fun e => by
  cases hq : q.S with
  | none => rw [hq] at e; simp [Value.ownBlock] at e
  | some a0 =>
   rw [hq] at e
   simp [Value.ownBlock] at e
   exact hn a0 hq e.symm).trans (hl.block b k)
 have SO : ∀ b, b < base → Off b q.S := fun b hb a ea => by have := h.own.s.own a ea; omega
 have TO : ∀ a, q.T = some a → Off a.block q.S := fun a ea a0 e0 e => h.own.ap a0 e0 a ea e.symm
 have TL : ∀ a, q.T = some a → a.block < W.heap.size := fun a ea => by
  have h1 := h.own.t
  rw [ea] at h1
  exact h1.lt.2
 have ZS : (W5.setCell ⟨X, 3, none⟩ (.slice A4 l' cap4)).heap.size = W5.heap.size := by simp [World.setCell]
 have KX : ∀ b, b ≠ X → (W5.setCell ⟨X, 3, none⟩ (.slice A4 l' cap4)).heap[b]? = W5.heap[b]? := fun b hb => Below.heap_setCell _ _ _ _ hb
 refine ⟨?_, ?_, ⟨?_, h.own.dc, ?_, h.own.ti, ?_, ?_⟩, ?_, h.wx, h.wz, h.xb, h.zb, h.xz⟩
 ·exact heap_setCell_same _ _ 3 _ _ _ ((K X (lt_of_block h.box) (SO _ hx)).trans h.box)
 ·exact (KX _ (Ne.symm h.xz)).trans ((K Z (lt_of_block h.zero) (SO _ hz)).trans h.zero)
 ·have hd := h.own.d.imp (O' := fun b => (base ≤ b ∧ Off b q.T ∧ Off b q.S) ∧ b < W.heap.size) fun b k1 k2 => ⟨k2, k1⟩
  have hd2 := hd.keep (w' := W5) (by omega) fun b k _ => K b k.2 k.1.2.2
  refine (hd2.keep (w' := W5.setCell ⟨X, 3, none⟩ (.slice A4 l' cap4)) (Nat.le_of_eq ZS.symm) fun b k _ => KX b (by have := k.1.1; omega)).imp fun b _ k => ⟨k.1.1, k.1.2.1, fun a ea e => ?_⟩
  rcases q4 a ea with ⟨a0, e0, e1⟩ | e1
  ·exact k.1.2.2 a0 e0 (e1.symm.trans e)
  ·have := k.2
   omega
 ·refine h.own.t.keep fun a ea => (KX _ ?_).trans (K _ (TL a ea) (TO a ea))
  have := h.own.t.own a ea
  omega
 ·refine o4.keep fun a ea => KX _ ?_
  have := o4.own a ea
  omega
 ·intro a ea a1 e1 e
  rcases q4 a ea with ⟨a0, e0, e2⟩ | e2
  ·exact h.own.ap a0 e0 a1 e1 (e.trans e2)
  ·have := TL a1 e1
   omega
 ·have hb5 : Below w.heap.size w W5 := ⟨g4.os.trans (hl.os.trans h.below.os), g4.tape.trans (hl.tape.trans h.below.tape), g4.output.trans (hl.output.trans h.below.output), by have := h.below.size; omega, fun k hk => (K k (by have := h.below.size; omega) (SO k (by omega))).trans (h.below.block k hk)⟩
  exact hb5.setCell (p := ⟨X, 3, none⟩) wx _
theorem Cp.sigBox {w W Wl W5 : World} {X Z base n m l : Nat} {st : Int} {q : At3} {r : Rn.R} (h : Cp w W X Z base q n st m l r) (hl : Below W.heap.size W Wl) {l0 c0 : Nat} (g4 : Wl.grownBy W5 (Value.slice q.S l0 c0).ownBlock) : boxR W5 X q n st m l :=
 (g4.block X (by have := lt_of_block h.box; have := hl.size; omega) fun e => by
  cases hq : q.S with
  | none => rw [hq] at e; simp [Value.ownBlock] at e
  | some a0 =>
   rw [hq] at e
   simp [Value.ownBlock] at e
   have h1 := h.own.s.own a0 hq
   have h2 := h.xb
   omega).trans ((hl.block _ (lt_of_block h.box)).trans h.box)
theorem Cq.new3 (w : World) (p : At3) (n m l : Nat) (st : Int) (o : Obj) :
  Cq w (((w.alloc (.cells #[.slice p.A n p.ca, .int .i64 st, .slice p.T m p.ct, .slice p.S l p.cs] 41)).alloc o).alloc (.cells #[.slice none 0 0, .int .i64 0, .slice none 0 0, .slice none 0 0] 41)) w.heap.size (w.heap.size + 1 + 1) (w.heap.size + 1 + 1 + 1) p n st m l := by
 refine ⟨?_, ?_, ((Below.refl _ _).alloc (Nat.le_refl _) _ |>.alloc (by simp) _).alloc (by simp; omega) _, Nat.le_refl _, by omega, by omega, by omega, by omega, by simp⟩
 ·refine (Below.heap_alloc _ _ _ (by simp; omega)).trans ?_
  exact box0' _ _ _
 ·have := heap_alloc_new ((w.alloc (.cells #[.slice p.A n p.ca, .int .i64 st, .slice p.T m p.ct, .slice p.S l p.cs] 41)).alloc o) (.cells #[.slice none 0 0, .int .i64 0, .slice none 0 0, .slice none 0 0] 41)
  rw [World.size_alloc, World.size_alloc] at this
  exact this
set_option maxHeartbeats 4000000 in
theorem sig_p (p : At3) (r : Rn.R) (hI : Rn.Inv r) (w : World) (O : Nat → Prop) (h : RunO w O p r) (s : ByteArray) (_ : s.size ≤ 140737488355328) : Calls Tryz.prog 85 #[rv p r, .string s] w (RunG w (Rn.sigV r s.data.toList)) := by
 obtain ⟨x, hx⟩ : ∃ x : Tx.T, s = str x := ⟨s.data.toList, (str_list s).symm⟩
 subst hx
 rw [str_data]
 have V : Hid (Rn.sigV r x = if Rn.sigE r x = 0 then (Rn.sigS r x, 0) else (Rn.r0, Rn.sigE r x)) := Lib.hid rfl
 have E : Hid ((r.st ≠ 0 → Rn.sigE r x = 9) ∧ (r.st = 0 → x ∈ r.sg → Rn.sigE r x = 5) ∧ (r.st = 0 → ¬ x ∈ r.sg → (x = [] ∨ ¬ (∃ t ∈ r.d, t.on = x)) → Rn.sigE r x = 1) ∧ (r.st = 0 → ¬ x ∈ r.sg → ¬ (x = [] ∨ ¬ (∃ t ∈ r.d, t.on = x)) → Rn.sigE r x = 0)) := Lib.hid (by
  unfold Rn.sigE
  exact ⟨fun h => by rw [if_pos h], fun h k => by rw [if_neg (fun e => e h), if_pos k], fun h k m => by rw [if_neg (fun e => e h), if_neg k, if_pos m], fun h k m => by rw [if_neg (fun e => e h), if_neg k, if_neg m]⟩)
 have SS : Hid (Rn.sigS r x = Rn.upd ⟨r.d, r.st, r.ts, r.sg ++ [x]⟩) := Lib.hid rfl
 have CN : Hid (∀ W n, Below w.heap.size w W → n = r.sg.length → Calls Tryz.prog 109 #[.slice p.S n p.cs, .string (str x)] W (BoolG W (decide (x ∈ r.sg)))) := Lib.hid fun W n hb hn => contains_p p.S r.sg p.cs (Bd.of hI.toPre).s (Bd.of hI.toPre).z x n hn W O (h.on hb).s
 have CF : Hid (∀ W n g, Below w.heap.size w W → n = r.d.length → W.cell? ⟨g, 0, none⟩ = some (.string (str x)) → Calls Tryz.prog 93 #[.slice p.A n p.ca, .func (.func 110) #[] #[.pointer (some ⟨g, 0, none⟩)]] W (BoolG W (r.d.any fun t => decide (t.on = x)))) :=
  Lib.hid fun W n g hb hn hg => containsFuncC_any g (str x) _ (on_test g x) p.A r.d p.ca n hn hI.good.fair W ((h.on hb).d.defIn) hg
 have AY : Hid ((r.d.any fun t => decide (t.on = x)) = true ↔ ∃ t ∈ r.d, t.on = x) := Lib.hid (by simp)
 have S16 : Hid (r.sg.length ≤ 16) := Lib.hid (Nat.le_trans (nodup_len r.sg (r.d.map (·.on)) hI.nodup fun y hy => by
  obtain ⟨_, t, ht, e⟩ := hI.sigs y hy
  exact List.mem_map.2 ⟨t, ht, e⟩) (by rw [List.length_map]; exact hI.good.n16))
 have XL : Hid (∀ t ∈ r.d, t.on = x → x.length ≤ 1100) := Lib.hid fun t ht e => by rw [← e]; exact (hI.good.fair.2 t ht).2.2
 generalize (r.d.any fun t => decide (t.on = x)) = yes at *
 generalize Rn.sigV r x = v at *
 generalize Rn.sigE r x = ee at *
 generalize Rn.sigS r x = r2 at *
 have CP : Hid (∀ W n l, Below w.heap.size w W → n = r.d.length → l = r.sg.length → Calls Tryz.prog 78 #[.agg #[.slice p.A n p.ca, .int .i64 r.st, .slice p.T n p.ct, .slice p.S l p.cs]] W (CopG W n r.st n l r)) :=
  Lib.hid fun W n l hb hn hl => copied_q p r (Bd.of hI.toPre) w W O h hb n r.st n l hn rfl (hn.trans hI.len.symm) hl
 have BD := Lib.hid (Bd.of hI.toPre)
 have AI := Lib.hid (AfterIn.of hI.toPre)
 obtain ⟨n, hn⟩ : ∃ n, n = r.d.length := ⟨_, rfl⟩
 obtain ⟨l, hl⟩ : ∃ l, l = r.sg.length := ⟨_, rfl⟩
 have HM : Hid (r.ts.length = n) := Lib.hid (hI.len.trans hn.symm)
 have HN := Lib.hid (⟨hn, hl⟩ : n = r.d.length ∧ l = r.sg.length)
 have n9 : n ≤ 1100 := by rw [hn]; exact BD.out.d
 unfold rv
 rw [hI.len, ← hn, ← hl]
 have P0 : Hid (0 < n) := Lib.hid (by have := hI.good.pos; rw [hn]; exact this)
 clear hn hl hI h
 obtain ⟨W0, hW0⟩ : ∃ W0, W0 = ((w.alloc (.cells #[.slice p.A n p.ca, .int .i64 r.st, .slice p.T n p.ct, .slice p.S l p.cs] 41)).alloc (.cells #[.string (str x)] 9)).alloc (.cells #[.slice none 0 0, .int .i64 0, .slice none 0 0, .slice none 0 0] 41) := ⟨_, rfl⟩
 have Q0 : Hid (Cq w W0 w.heap.size (w.heap.size + 1 + 1) (w.heap.size + 1 + 1 + 1) p n r.st n l) := Lib.hid (by rw [hW0]; exact Cq.new3 w p n n l r.st _)
 have B0 : Hid (Below w.heap.size w W0) := Lib.hid Q0.out.below
 have X0 : Hid (W0.heap[w.heap.size + 1]? = some (.cells #[.string (str x)] 9 (0, 0))) := Lib.hid (by rw [hW0]; exact (Below.heap_alloc _ _ _ (by simp)).trans (box1 _ _ _))
 go_enter Tryz.func85, Tryz.ntmps85
 obtain ⟨⟨x0, x1, x2, x3⟩, -⟩ := obj4 Q0.out.box
 have n0 : W0.cell? ⟨w.heap.size + 1, 0, none⟩ = some (.string (str x)) := by simp [World.cell?, X0.out]
 go_upto_region 1 with (fail)
 rw [← hW0]
 clear hW0
 by_cases hs : r.st = 0
 ·rw [hs] at Q0 x1 CP SS
  have E2 := Lib.hid (E.out.2.1 hs)
  have E3 := Lib.hid (E.out.2.2.1 hs)
  have E4 := Lib.hid (E.out.2.2.2 hs)
  clear E
  go_wp2_with fail
  (with_reducible refine (CN.out W0 l B0.out HN.out.2).mono ?_); rintro e W1 ⟨rfl, b1⟩
  have Q1 := Lib.hid (Q0.out.on b1.out)
  have X1 : Hid (W1.heap[w.heap.size + 1]? = some (.cells #[.string (str x)] 9 (0, 0))) := Lib.hid ((b1.out.block _ (lt_of_block X0.out)).trans X0.out)
  clear x0 x1 x2 x3 n0
  obtain ⟨⟨x0, x1, x2, x3⟩, -⟩ := obj4 Q1.out.box
  have n0 : W1.cell? ⟨w.heap.size + 1, 0, none⟩ = some (.string (str x)) := by simp [World.cell?, X1.out]
  by_cases hm : x ∈ r.sg
  ·have R : Hid (v = (Rn.r0, 5)) := Lib.hid (by rw [V.out, E2.out hm, if_neg (by decide)])
   rw [decide_eq_true hm]
   clear E2 E3 E4 V hm
   obtain ⟨⟨z0, z1, z2, z3⟩, g0, g1, g2, g3⟩ := obj4 Q1.out.zero
   go_wp2
   rw [S4.lit]
   obtain ⟨⟨d0, d1, d2, d3⟩, -⟩ := obj4 (S4.at_ Q1.out.zero (.slice none 0 0) (.int .i64 0) (.slice none 0 0) (.slice none 0 0))
   refine bodyPost_ret (v := .tuple #[.agg #[.slice none 0 0, .int .i64 0, .slice none 0 0, .slice none 0 0], .int .i64 5]) (by simp [results, Tryz.results85, go_sem, d0, d1, d2, d3]) rfl ?_
   rw [R.out]
   exact err_ans 5 Q1.out.below Q1.out.wz
  ·rw [decide_eq_false hm]
   have E3 := Lib.hid (E3.out hm)
   have E4 := Lib.hid (E4.out hm)
   clear E2 hm
   by_cases he : x = []
   ·have R : Hid (v = (Rn.r0, 1)) := Lib.hid (by rw [V.out, E3.out (.inl he), if_neg (by decide)])
    have hb : str x = ⟨#[]⟩ := by rw [he]; rfl
    rw [hb] at n0
    clear E3 E4 V he CN CF
    obtain ⟨⟨z0, z1, z2, z3⟩, g0, g1, g2, g3⟩ := obj4 Q1.out.zero
    go_wp2
    rw [S4.lit]
    obtain ⟨⟨d0, d1, d2, d3⟩, -⟩ := obj4 (S4.at_ Q1.out.zero (.slice none 0 0) (.int .i64 0) (.slice none 0 0) (.slice none 0 0))
    refine bodyPost_ret (v := .tuple #[.agg #[.slice none 0 0, .int .i64 0, .slice none 0 0, .slice none 0 0], .int .i64 1]) (by simp [results, Tryz.results85, go_sem, d0, d1, d2, d3]) rfl ?_
    rw [R.out]
    exact err_ans 1 Q1.out.below Q1.out.wz
   ·have hb := str_ne he
    obtain ⟨hb0, hb1⟩ := hb
    cases hy : yes with
    | false =>
     have R : Hid (v = (Rn.r0, 1)) := Lib.hid (by rw [V.out, E3.out (.inr fun h => by have := AY.out.2 h; rw [hy] at this; cases this), if_neg (by decide)])
     rw [hy] at CF
     clear E3 E4 V CN
     go_wp2_with fail
     (with_reducible refine (CF.out W1 n (w.heap.size + 1) Q1.out.below HN.out.1 n0).mono ?_); rintro e W2 ⟨rfl, b2⟩
     have Q2 := Lib.hid (Q1.out.on b2.out)
     clear x0 x1 x2 x3 n0
     obtain ⟨⟨z0, z1, z2, z3⟩, g0, g1, g2, g3⟩ := obj4 Q2.out.zero
     go_wp2
     rw [S4.lit]
     obtain ⟨⟨d0, d1, d2, d3⟩, -⟩ := obj4 (S4.at_ Q2.out.zero (.slice none 0 0) (.int .i64 0) (.slice none 0 0) (.slice none 0 0))
     refine bodyPost_ret (v := .tuple #[.agg #[.slice none 0 0, .int .i64 0, .slice none 0 0, .slice none 0 0], .int .i64 1]) (by simp [results, Tryz.results85, go_sem, d0, d1, d2, d3]) rfl ?_
     rw [R.out]
     exact err_ans 1 Q2.out.below Q2.out.wz
    | true =>
     have R : Hid (v = (r2, 0)) := Lib.hid (by rw [V.out, E4.out (fun h => by rcases h with h | h; exact he h; exact h (AY.out.1 hy)), if_pos rfl])
     rw [hy] at CF
     clear E3 E4 V CN
     go_wp2_with fail
     (with_reducible refine (CF.out W1 n (w.heap.size + 1) Q1.out.below HN.out.1 n0).mono ?_); rintro e W2a ⟨rfl, b2a⟩
     have Q2 := Lib.hid (Q1.out.on b2a.out)
     have X2 : Hid (W2a.heap[w.heap.size + 1]? = some (.cells #[.string (str x)] 9 (0, 0))) := Lib.hid ((b2a.out.block _ (lt_of_block X1.out)).trans X1.out)
     have hyt := Lib.hid hy
     clear x0 x1 x2 x3 n0 CF hy hb0 hb1
     obtain ⟨⟨x0, x1, x2, x3⟩, -⟩ := obj4 Q2.out.box
     go_wp2_with fail
     (with_reducible refine (CP.out W2a n l Q2.out.below HN.out.1 HN.out.2).mono ?_); rintro e W2 ⟨q, rfl, o2, b2⟩
     have C3 := Lib.hid (Q2.out.copy o2.out b2.out)
     clear x0 x1 x2 x3
     obtain ⟨⟨x0, x1, x2, x3⟩, f0, f1, f2, f3⟩ := obj4 (Q2.out.on b2.out).box
     go_upto_region 8 with (fail)
     rw [S4.lit]
     obtain ⟨W3, hW3⟩ : ∃ W3, W3 = S4 W2 w.heap.size (.slice q.A n q.ca) (.int .i64 0) (.slice q.T n q.ct) (.slice q.S l q.cs) := ⟨_, rfl⟩
     rw [← hW3] at C3 ⊢
     have X3 : Hid (W3.heap[w.heap.size + 1]? = some (.cells #[.string (str x)] 9 (0, 0))) := Lib.hid (by rw [hW3]; exact (S4.else_ _ _ _ _ _ _ (by omega)).trans ((b2.out.block _ (lt_of_block X2.out)).trans X2.out))
     have L3 : Hid (w.heap.size + 1 + 1 + 1 ≤ W3.heap.size) := Lib.hid (by rw [hW3, S4.size_]; exact Nat.le_trans Q2.out.sz b2.out.size)
     clear hW3 x0 x1 x2 x3 f0 f1 f2 f3
     have n3 : W3.cell? ⟨w.heap.size + 1, 0, none⟩ = some (.string (str x)) := by simp [World.cell?, X3.out]
     obtain ⟨⟨x0, x1, x2, x3⟩, f0, f1, f2, f3⟩ := obj4 C3.out.box
     have BL : Hid (Below W3.heap.size W3 (W3.alloc (.cells #[.string (str x)] 9))) := Lib.hid ((Below.refl _ _).alloc (Nat.le_refl _) _)
     have OS : Hid (OwnK (W3.alloc (.cells #[.string (str x)] 9)) (w.heap.size + 1 + 1 + 1) 9 1 q.S q.cs (r.sg.map sgV)) := Lib.hid (C3.out.own.s.kept fun b _ hl => BL.out.block b hl)
     have LE : Hid ((r.sg.map sgV ++ [sgV x]).length = l + 1) := Lib.hid (by rw [List.length_append, List.length_map, ← HN.out.2]; rfl)
     have LN : Hid (l = (r.sg.map sgV).length) := Lib.hid (by rw [List.length_map]; exact HN.out.2)
     have LB : Hid (l ≤ 1100) := Lib.hid (by rw [HN.out.2]; exact BD.out.s)
     have LC : Hid ((W3.alloc (.cells #[.string (str x)] 9)).cell? ⟨W3.heap.size, 0, none⟩ = some (.string (str x))) := Lib.hid (by
      have := heap_alloc_new W3 (.cells #[.string (str x)] 9)
      simp only [World.cell?, this]
      rfl)
     go_wp2_with (at_builtin; refine wp_appK (vs := r.sg.map sgV) (us := [sgV x]) rfl (.tmp 29) (.tmp 31) rfl Tryz.underlying39 infoS rfl (by decide) (by decide) rfl LN.out OS.out (by have := L3.out; simp; omega) rfl rfl (fun v hv => by rw [List.mem_singleton.1 hv]; exact sgV_wide [x] _ (by simp)) (fun j u hu => by
      have e : [sgV x].flatten = [Value.string (str x)] := rfl
      rw [e] at hu
      obtain rfl : j = 0 := by have := (List.getElem?_eq_some_iff.1 hu).1; simp at this; omega
      rw [← hu]
      exact LC.out) (by have := LB.out; rw [← LN.out]; simp; omega) ?_; intro A4 cap4 w4 o4 g4 q4; rw [LE.out]; have O4 := Lib.hid o4; have G4 := Lib.hid g4; have Q4 := Lib.hid q4; clear o4 g4 q4; have y4 := Lib.hid (C3.out.sigBox BL.out G4.out); clear x0 x1 x2 x3 f0 f1 f2 f3; obtain ⟨⟨x0, x1, x2, x3⟩, f0, f1, f2, f3⟩ := obj4 y4.out)
     have C4 := Lib.hid (C3.out.sig (x := x) BL.out (by rw [List.map_append]; exact O4.out) G4.out Q4.out (l + 1))
     obtain ⟨W4, hW4⟩ : ∃ W4, W4 = w4.setCell ⟨w.heap.size, 3, none⟩ (.slice A4 (l + 1) cap4) := ⟨_, rfl⟩
     rw [← hW4] at C4 ⊢
     clear hW4 x0 x1 x2 x3 f0 f1 f2 f3
     rw [hs] at C4
     obtain ⟨r3, hr3⟩ : ∃ r3 : Rn.R, r3 = ⟨r.d, 0, r.ts, r.sg ++ [x]⟩ := ⟨_, rfl⟩
     rw [← hr3] at C4 SS
     have R3 := Lib.hid hr3
     clear hr3
     obtain ⟨q2, hq2⟩ : ∃ q2 : At3, q2 = ⟨q.A, q.ca, q.T, q.ct, A4, cap4⟩ := ⟨_, rfl⟩
     rw [← hq2] at C4
     obtain ⟨t0, ht0, et0⟩ := AY.out.1 hyt.out
     have UP := update_p q2 r3 w.heap.size (w.heap.size + 1 + 1 + 1) n (l + 1) (by omega) (by rw [R3.out]; exact ⟨BD.out.d, BD.out.a, BD.out.t, by show (r.sg ++ [x]).length ≤ _; have := S16.out; simp; omega, fun y hy => by
      rcases List.mem_append.1 hy with hy | hy
      ·exact BD.out.z y hy
      ·rw [List.mem_singleton.1 hy]; exact XL.out t0 ht0 et0⟩) (by rw [R3.out]; exact AI.out) (by rw [R3.out]; exact HN.out.1) (by rw [R3.out]; exact HM.out.trans HN.out.1) P0.out (by rw [R3.out]; show l + 1 = (r.sg ++ [x]).length; rw [List.length_append, ← HN.out.2]; rfl) W4 (by rw [show r3.st = 0 by rw [R3.out]]; exact C4.out.box) C4.out.own
     rw [← SS.out] at UP
     have UP := Lib.hid UP
     (with_reducible refine UP.out.mono ?_); intro e W5 hu5
     obtain ⟨rfl, C5⟩ := UpdPost.cp C4.out hu5
     clear UP hu5
     have F5 : Hid (r2.d = r.d ∧ r2.ts.length = n ∧ r2.sg.length = l + 1) := Lib.hid (by
      rw [SS.out, R3.out]
      refine ⟨rfl, ?_, ?_⟩
      ·show (List.zipWith _ r.d r.ts).length = n
       rw [List.length_zipWith, HM.out, ← HN.out.1]
       omega
      ·show (r.sg ++ [x]).length = l + 1
       rw [List.length_append, ← HN.out.2]
       rfl)
     obtain ⟨s5, hs5⟩ : ∃ s5, s5 = r2.st := ⟨_, rfl⟩
     rw [← hs5] at C5
     have S5 := Lib.hid hs5
     have QA : Hid (q2.A = q.A ∧ q2.ca = q.ca ∧ q2.T = q.T ∧ q2.ct = q.ct ∧ q2.S = A4 ∧ q2.cs = cap4) := Lib.hid (by rw [hq2]; exact ⟨rfl, rfl, rfl, rfl, rfl, rfl⟩)
     clear hs5 hq2
     obtain ⟨⟨x0, x1, x2, x3⟩, -⟩ := obj4 C5.out.box
     obtain ⟨⟨z0, z1, z2, z3⟩, g0, g1, g2, g3⟩ := obj4 C5.out.zero
     go_wp2
     rw [S4.lit]
     obtain ⟨⟨d0, d1, d2, d3⟩, -⟩ := obj4 (S4.at_ C5.out.zero (.slice q2.A n q2.ca) (.int .i64 s5) (.slice q2.T n q2.ct) (.slice q2.S (l + 1) q2.cs))
     have A5 := C5.out.ans (.slice q2.A n q2.ca) (.int .i64 s5) (.slice q2.T n q2.ct) (.slice q2.S (l + 1) q2.cs)
     refine bodyPost_ret (v := .tuple #[.agg #[.slice q2.A n q2.ca, .int .i64 s5, .slice q2.T n q2.ct, .slice q2.S (l + 1) q2.cs], .int .i64 0]) (by simp [results, Tryz.results85, go_sem, d0, d1, d2, d3]) rfl ?_
     rw [R.out]
     refine ⟨q2, ?_, Lib.hid A5.1, Lib.hid A5.2⟩
     unfold rv
     dsimp only
     rw [F5.out.1, F5.out.2.1, F5.out.2.2, ← HN.out.1, S5.out]
 ·have R : Hid (v = (Rn.r0, 9)) := Lib.hid (by rw [V.out, E.out.1 hs, if_neg (by decide)])
  have hs' : (r.st != 0) = true := by simpa using hs
  clear E V CN CF
  obtain ⟨⟨z0, z1, z2, z3⟩, g0, g1, g2, g3⟩ := obj4 Q0.out.zero
  go_wp2
  rw [S4.lit]
  obtain ⟨⟨d0, d1, d2, d3⟩, -⟩ := obj4 (S4.at_ Q0.out.zero (.slice none 0 0) (.int .i64 0) (.slice none 0 0) (.slice none 0 0))
  refine bodyPost_ret (v := .tuple #[.agg #[.slice none 0 0, .int .i64 0, .slice none 0 0, .slice none 0 0], .int .i64 9]) (by simp [results, Tryz.results85, go_sem, d0, d1, d2, d3]) rfl ?_
  rw [R.out]
  exact err_ans 9 Q0.out.below Q0.out.wz
end Go.Proofs.YtkbekojnmdgdgaaGreatDoor
/- RnCan -/
namespace Go.Proofs.YtkbekojnmdgdgaaGreatDoor
open Go.RowKit
set_option maxRecDepth 20000
theorem cancel_p (p : At3) (r : Rn.R) (hI : Rn.Inv r) (w : World) (O : Nat → Prop) (h : RunO w O p r) : Calls Tryz.prog 86 #[rv p r] w (RunG w (Rn.cancelV r)) := by
 have V : Hid (Rn.cancelV r = if r.st = 0 then (⟨r.d, 3, r.ts, r.sg⟩, 0) else (Rn.r0, 9)) := Lib.hid rfl
 have CP : Hid (∀ W n m l, Below w.heap.size w W → n = r.d.length → m = r.ts.length → l = r.sg.length → Calls Tryz.prog 78 #[.agg #[.slice p.A n p.ca, .int .i64 r.st, .slice p.T m p.ct, .slice p.S l p.cs]] W (CopG W n r.st m l r)) :=
  Lib.hid fun W n m l hb hn hm hl => copied_q p r (Bd.of hI.toPre) w W O h hb n r.st m l hn rfl hm hl
 generalize Rn.cancelV r = v at *
 obtain ⟨n, hn⟩ : ∃ n, n = r.d.length := ⟨_, rfl⟩
 obtain ⟨m, hm⟩ : ∃ m, m = r.ts.length := ⟨_, rfl⟩
 obtain ⟨l, hl⟩ : ∃ l, l = r.sg.length := ⟨_, rfl⟩
 unfold rv
 rw [← hn, ← hm, ← hl]
 have HN := Lib.hid (⟨hn, hm, hl⟩ : n = r.d.length ∧ m = r.ts.length ∧ l = r.sg.length)
 clear hn hm hl hI h
 obtain ⟨W0, hW0⟩ : ∃ W0, W0 = (w.alloc (.cells #[.slice p.A n p.ca, .int .i64 r.st, .slice p.T m p.ct, .slice p.S l p.cs] 41)).alloc (.cells #[.slice none 0 0, .int .i64 0, .slice none 0 0, .slice none 0 0] 41) := ⟨_, rfl⟩
 have B0 : Hid (Below w.heap.size w W0) := Lib.hid (by rw [hW0]; exact box2 _ _ _)
 have Q0 : Hid (Cq w W0 w.heap.size (w.heap.size + 1) (w.heap.size + 1 + 1) p n r.st m l) := Lib.hid (by
  refine ⟨?_, ?_, B0.out, Nat.le_refl _, by omega, by omega, by omega, by omega, by rw [hW0]; simp⟩
  ·rw [hW0]; exact box0' _ _ _
  ·unfold zeroR; rw [hW0]; exact box1 _ _ _)
 generalize r.st = st at *
 go_enter Tryz.func86, Tryz.ntmps86
 obtain ⟨⟨x0, x1, x2, x3⟩, -⟩ := obj4 Q0.out.box
 by_cases h0 : st = 0
 ·have R : Hid (v = (⟨r.d, 3, r.ts, r.sg⟩, 0)) := Lib.hid (by rw [V.out, if_pos h0])
  subst h0
  clear V
  go_upto_region 1 with (fail)
  rw [← hW0]
  clear hW0
  go_wp2_with fail
  (with_reducible refine (CP.out W0 n m l B0.out HN.out.1 HN.out.2.1 HN.out.2.2).mono ?_); rintro e W2 ⟨q, rfl, o2, b2⟩
  have C3 := Lib.hid (Q0.out.copy o2.out b2.out)
  clear x0 x1 x2 x3
  obtain ⟨⟨x0, x1, x2, x3⟩, f0, f1, f2, f3⟩ := obj4 (Q0.out.on b2.out).box
  go_upto_region 4 with (fail)
  rw [S4.lit]
  obtain ⟨W3, hW3⟩ : ∃ W3, W3 = S4 W2 w.heap.size (.slice q.A n q.ca) (.int .i64 0) (.slice q.T m q.ct) (.slice q.S l q.cs) := ⟨_, rfl⟩
  rw [← hW3] at C3 ⊢
  clear hW3 x0 x1 x2 x3 f0 f1 f2 f3
  have C4 := Lib.hid (C3.out.st 3 3)
  obtain ⟨W4, hW4⟩ : ∃ W4, W4 = W3.setCell ⟨w.heap.size, 1, none⟩ (.int .i64 3) := ⟨_, rfl⟩
  rw [← hW4] at C4
  obtain ⟨⟨x0, x1, x2, x3⟩, f0, f1, f2, f3⟩ := obj4 C3.out.box
  go_upto_region 5 with (fail)
  rw [← hW4]
  clear hW4 x0 x1 x2 x3 f0 f1 f2 f3
  obtain ⟨⟨x0, x1, x2, x3⟩, -⟩ := obj4 C4.out.box
  obtain ⟨⟨z0, z1, z2, z3⟩, g0, g1, g2, g3⟩ := obj4 C4.out.zero
  go_wp2
  rw [S4.lit]
  obtain ⟨⟨d0, d1, d2, d3⟩, -⟩ := obj4 (S4.at_ C4.out.zero (.slice q.A n q.ca) (.int .i64 3) (.slice q.T m q.ct) (.slice q.S l q.cs))
  have A5 := C4.out.ans (.slice q.A n q.ca) (.int .i64 3) (.slice q.T m q.ct) (.slice q.S l q.cs)
  refine bodyPost_ret (v := .tuple #[.agg #[.slice q.A n q.ca, .int .i64 3, .slice q.T m q.ct, .slice q.S l q.cs], .int .i64 0]) (by simp [results, Tryz.results86, go_sem, d0, d1, d2, d3]) rfl ?_
  rw [R.out, HN.out.1, HN.out.2.1, HN.out.2.2] at *
  exact ⟨q, rfl, Lib.hid A5.1, Lib.hid A5.2⟩
 ·have R : Hid (v = (Rn.r0, 9)) := Lib.hid (by rw [V.out, if_neg h0])
  have h0' : (st != 0) = true := by simpa using h0
  clear V
  go_upto_region 1 with (fail)
  rw [← hW0]
  clear hW0
  obtain ⟨⟨z0, z1, z2, z3⟩, g0, g1, g2, g3⟩ := obj4 Q0.out.zero
  go_wp2
  rw [S4.lit]
  obtain ⟨⟨d0, d1, d2, d3⟩, -⟩ := obj4 (S4.at_ Q0.out.zero (.slice none 0 0) (.int .i64 0) (.slice none 0 0) (.slice none 0 0))
  refine bodyPost_ret (v := .tuple #[.agg #[.slice none 0 0, .int .i64 0, .slice none 0 0, .slice none 0 0], .int .i64 9]) (by simp [results, Tryz.results86, go_sem, d0, d1, d2, d3]) rfl ?_
  rw [R.out]
  exact err_ans 9 B0.out (by omega)
end Go.Proofs.YtkbekojnmdgdgaaGreatDoor
/- RnNext -/
namespace Go.Proofs.YtkbekojnmdgdgaaGreatDoor
open Go.RowKit
set_option maxRecDepth 20000
def Rn.lstep (o : Option Int) (k : Rn.Tk) : Option Int := if Rn.timed k = true then (match o with | none => some k.un | some v => some (if k.un < v then k.un else v)) else o
def Rn.mrg : Option Int → Option Int → Option Int
 | none, b => b
 | some a, none => some a
 | some a, some b => some (min a b)
theorem Rn.lstep_all : ∀ (l : List Rn.Tk) (o : Option Int), l.foldl Rn.lstep o = Rn.mrg o (Rn.least l)
 | [], o => by cases o <;> rfl
 | k :: l, o => by
  rw [List.foldl_cons, Rn.lstep_all l]
  unfold Rn.lstep
  show _ = Rn.mrg o (match Rn.least l with | none => if Rn.timed k = true then some k.un else none | some v => if Rn.timed k = true then some (min k.un v) else some v)
  cases Rn.least l with
  | none =>
   cases Rn.timed k with
   | false => rfl
   | true =>
    cases o with
    | none => rfl
    | some v =>
     show some (if k.un < v then k.un else v) = some (min v k.un)
     congr 1
     split <;> omega
  | some x =>
   cases Rn.timed k with
   | false => rfl
   | true =>
    cases o with
    | none => rfl
    | some v =>
     show some (min (if k.un < v then k.un else v) x) = some (min v (min k.un x))
     congr 1
     split <;> omega
theorem Rn.least_fold (l : List Rn.Tk) : Rn.least l = l.foldl Rn.lstep none := (Rn.lstep_all l none).symm
set_option maxHeartbeats 2000000 in
theorem next_p (p : At3) (r : Rn.R) (hI : Rn.Inv r) (w : World) (O : Nat → Prop) (h : RunO w O p r) :
  Calls Tryz.prog 33 #[rv p r] w fun e w' => e = .returned (.tuple #[.int .i64 ((Rn.nextV r).getD 0), .bool (Rn.nextV r).isSome]) ∧ Hid (Below w.heap.size w w') := by
 have V : Hid (Rn.nextV r = if r.st = 0 then Rn.least r.ts else none) := Lib.hid rfl
 generalize Rn.nextV r = v at *
 have NP : 0 < r.ts.length := by rw [hI.len]; exact hI.good.pos
 obtain ⟨b, off, hA, -, hb, hc⟩ := h.t.2 NP
 have HC := Lib.hid hc
 have TI := Lib.hid h.t.1
 have n9 : r.ts.length ≤ 1100 := (Bd.of hI.toPre).t
 unfold rv
 rw [hA]
 obtain ⟨n, hn⟩ : ∃ n, n = r.ts.length := ⟨_, rfl⟩
 rw [← hn] at n9 ⊢
 have HN := Lib.hid hn
 generalize r.d.length = m at *
 generalize r.sg.length = l at *
 obtain ⟨W0, hW0⟩ : ∃ W0, W0 = w.alloc (.cells #[.slice p.A m p.ca, .int .i64 r.st, .slice (some ⟨b, off, none⟩) n p.ct, .slice p.S l p.cs] 41) := ⟨_, rfl⟩
 have B0 : Hid (Below w.heap.size w W0) := Lib.hid (by rw [hW0]; exact (Below.refl _ _).alloc (Nat.le_refl _) _)
 have X0 : W0.heap[w.heap.size]? = some (.cells #[.slice p.A m p.ca, .int .i64 r.st, .slice (some ⟨b, off, none⟩) n p.ct, .slice p.S l p.cs] 41 (0, 0)) := by rw [hW0]; exact heap_alloc_new _ _
 obtain ⟨⟨x0, x1, x2, x3⟩, -⟩ := obj4 X0
 have HB := Lib.hid hb
 generalize r.st = st at *
 clear hI h hA hc hb NP X0 hn
 go_enter Tryz.func33, Tryz.ntmps33
 go_upto_region 1 with (fail)
 rw [← hW0]
 clear hW0
 by_cases h0 : st = 0
 ·have R : Hid (v = r.ts.foldl Rn.lstep none) := Lib.hid (by rw [V.out, if_pos h0, Rn.least_fold])
  subst h0
  clear V
  go_wp2_with fail
  go_loopw [4, 5, 14] (fun lv bv iv wr => ∃ (k : Nat) (z : Int) (o : Bool), k ≤ n ∧ lv = .int .i64 z ∧ bv = .bool o ∧ iv = .int .i64 k ∧ Hid (z = ((r.ts.take k).foldl Rn.lstep none).getD 0 ∧ o = ((r.ts.take k).foldl Rn.lstep none).isSome) ∧ Hid (Below w.heap.size w wr)) (fun _ _ iv _ => n - (intOf iv).toNat)
  case atStart => exact ⟨0, 0, false, Nat.zero_le _, rfl, rfl, rfl, Lib.hid ⟨rfl, rfl⟩, B0⟩
  case round =>
   obtain ⟨k, z, o, hk, rfl, rfl, rfl, HZ, HW⟩ := hrel
   by_cases hlt : k < n
   ·have hlt' : (k : Int) < (n : Int) := by omega
    have HD : Hid (k < r.ts.length) := Lib.hid (by rw [← HN.out]; exact hlt)
    obtain ⟨kk, hkk⟩ : ∃ kk, kk = r.ts.getD k Rn.t0 := ⟨_, rfl⟩
    have KK := Lib.hid hkk
    have c0 : w.cell? ⟨b, off + k * 4, none⟩ = some (.int .i64 kk.ph) := by rw [hkk]; exact (HC.out k HD.out).1
    have c1 : w.cell? ⟨b, off + k * 4 + 1, none⟩ = some (.int .i64 kk.tr) := by rw [hkk]; exact (HC.out k HD.out).2.1
    have c2 : w.cell? ⟨b, off + k * 4 + 2, none⟩ = some (.int .i64 kk.un) := by rw [hkk]; exact (HC.out k HD.out).2.2.1
    have c3 : w.cell? ⟨b, off + k * 4 + 3, none⟩ = some (.string (str kk.da)) := by rw [hkk]; exact (HC.out k HD.out).2.2.2
    have KI : Hid (tkIn kk) := Lib.hid (by rw [hkk, getD_at HD.out]; exact TI.out _ (List.getElem_mem _))
    clear hkk
    have e0 := (HW.out.cell (block_lt c0)).trans c0
    have e1 := (HW.out.cell (block_lt c1)).trans c1
    have e2 := (HW.out.cell (block_lt c2)).trans c2
    have e3 := (HW.out.cell (block_lt c3)).trans c3
    clear c0 c1 c2 c3
    have ST : Hid ((r.ts.take (k + 1)).foldl Rn.lstep none = Rn.lstep ((r.ts.take k).foldl Rn.lstep none) kk) := Lib.hid (by
     rw [List.take_add_one, List.getElem?_eq_getElem HD.out, List.foldl_append, KK.out, getD_at HD.out]
     rfl)
    obtain ⟨u, hu⟩ : ∃ u, u = (r.ts.take k).foldl Rn.lstep none := ⟨_, rfl⟩
    rw [← hu] at ST HZ
    clear hu
    obtain ⟨W1, hW1⟩ : ∃ W1, W1 = wr.alloc (.cells #[.int .i64 kk.ph, .int .i64 kk.tr, .int .i64 kk.un, .string (str kk.da)] 47) := ⟨_, rfl⟩
    have T1 : W1.heap[wr.heap.size]? = some (.cells #[.int .i64 kk.ph, .int .i64 kk.tr, .int .i64 kk.un, .string (str kk.da)] 47 (0, 0)) := by rw [hW1]; exact heap_alloc_new _ _
    have B1 : Hid (Below w.heap.size w W1) := Lib.hid (by rw [hW1]; exact HW.out.alloc HW.out.size _)
    obtain ⟨⟨y0, y1, y2, y3⟩, -⟩ := obj4 T1
    clear T1
    go_upto_region 7 with (fail)
    rw [← hW1]
    clear hW1 e0 e1 e2 e3
    cases u with
    | none =>
     obtain ⟨rfl, rfl⟩ : z = 0 ∧ o = false := HZ.out
     by_cases h2 : kk.ph = 2
     ·have TT : Hid (Rn.timed kk = true) := Lib.hid (decide_eq_true (.inl h2))
      rw [h2] at y0
      clear h2
      go_wp2
      go_roundw
      case rel => exact ⟨k + 1, kk.un, true, by omega, rfl, rfl, by go_num, Lib.hid (by rw [ST.out]; unfold Rn.lstep; rw [if_pos TT.out]; exact ⟨rfl, rfl⟩), B1⟩
      case measure => simp [intOf]; omega
     ·have h2' : (kk.ph != 2) = true := by simpa using h2
      by_cases h5 : kk.ph = 5
      ·have TT : Hid (Rn.timed kk = true) := Lib.hid (decide_eq_true (.inr h5))
       rw [h5] at y0
       clear h2 h2' h5
       go_wp2
       go_roundw
       case rel => exact ⟨k + 1, kk.un, true, by omega, rfl, rfl, by go_num, Lib.hid (by rw [ST.out]; unfold Rn.lstep; rw [if_pos TT.out]; exact ⟨rfl, rfl⟩), B1⟩
       case measure => simp [intOf]; omega
      ·have TT : Hid (Rn.timed kk = false) := Lib.hid (decide_eq_false fun h => by rcases h with h | h; exact h2 h; exact h5 h)
       have h5' : (kk.ph != 5) = true := by simpa using h5
       go_wp2
       go_roundw
       case rel => exact ⟨k + 1, 0, false, by omega, rfl, rfl, by go_num, Lib.hid (by rw [ST.out]; unfold Rn.lstep; rw [if_neg (by rw [TT.out]; decide)]; exact ⟨rfl, rfl⟩), B1⟩
       case measure => simp [intOf]; omega
    | some z2 =>
     obtain ⟨rfl, rfl⟩ : z = z2 ∧ o = true := HZ.out
     by_cases h2 : kk.ph = 2
     ·have TT : Hid (Rn.timed kk = true) := Lib.hid (decide_eq_true (.inl h2))
      rw [h2] at y0
      clear h2
      by_cases hl : kk.un < z
      ·skip
       go_wp2
       go_roundw
       case rel => exact ⟨k + 1, kk.un, true, by omega, rfl, rfl, by go_num, Lib.hid (by rw [ST.out]; unfold Rn.lstep; rw [if_pos TT.out]; simp only [if_pos hl]; exact ⟨rfl, rfl⟩), B1⟩
       case measure => simp [intOf]; omega
      ·have hl' : decide (kk.un < z) = false := decide_eq_false hl
       go_wp2
       go_roundw
       case rel => exact ⟨k + 1, z, true, by omega, rfl, rfl, by go_num, Lib.hid (by rw [ST.out]; unfold Rn.lstep; rw [if_pos TT.out]; simp only [if_neg hl]; exact ⟨rfl, rfl⟩), B1⟩
       case measure => simp [intOf]; omega
     ·have h2' : (kk.ph != 2) = true := by simpa using h2
      by_cases h5 : kk.ph = 5
      ·have TT : Hid (Rn.timed kk = true) := Lib.hid (decide_eq_true (.inr h5))
       rw [h5] at y0
       clear h2 h2' h5
       by_cases hl : kk.un < z
       ·skip
        go_wp2
        go_roundw
        case rel => exact ⟨k + 1, kk.un, true, by omega, rfl, rfl, by go_num, Lib.hid (by rw [ST.out]; unfold Rn.lstep; rw [if_pos TT.out]; simp only [if_pos hl]; exact ⟨rfl, rfl⟩), B1⟩
        case measure => simp [intOf]; omega
       ·have hl' : decide (kk.un < z) = false := decide_eq_false hl
        go_wp2
        go_roundw
        case rel => exact ⟨k + 1, z, true, by omega, rfl, rfl, by go_num, Lib.hid (by rw [ST.out]; unfold Rn.lstep; rw [if_pos TT.out]; simp only [if_neg hl]; exact ⟨rfl, rfl⟩), B1⟩
        case measure => simp [intOf]; omega
      ·have TT : Hid (Rn.timed kk = false) := Lib.hid (decide_eq_false fun h => by rcases h with h | h; exact h2 h; exact h5 h)
       have h5' : (kk.ph != 5) = true := by simpa using h5
       go_wp2
       go_roundw
       case rel => exact ⟨k + 1, z, true, by omega, rfl, rfl, by go_num, Lib.hid (by rw [ST.out]; unfold Rn.lstep; rw [if_neg (by rw [TT.out]; decide)]; exact ⟨rfl, rfl⟩), B1⟩
       case measure => simp [intOf]; omega
   ·obtain rfl : k = n := by omega
    have hge : ¬ (k : Int) < (k : Int) := by omega
    have RV : Hid (z = v.getD 0 ∧ o = v.isSome) := Lib.hid (by
     have h1 := HZ.out
     rw [HN.out, List.take_length, ← R.out] at h1
     exact h1)
    go_wp2
    refine bodyPost_ret (v := .tuple #[.int .i64 z, .bool o]) (by simp [results, Tryz.results33, go_sem]) rfl ⟨by rw [← RV.out.1, ← RV.out.2], HW⟩
 ·have R : Hid (v = none) := Lib.hid (by rw [V.out, if_neg h0])
  have h0' : (st != 0) = true := by simpa using h0
  clear V
  go_wp2
  refine bodyPost_ret (v := .tuple #[.int .i64 0, .bool false]) (by simp [results, Tryz.results33, go_sem]) rfl ⟨by rw [R.out]; rfl, B0⟩
end Go.Proofs.YtkbekojnmdgdgaaGreatDoor
/- RnEqs -/
namespace Go.Proofs.YtkbekojnmdgdgaaGreatDoor
open Go.RowKit
set_option maxRecDepth 20000
def EqTo {α : Type} (l l2 : List α) (k : Nat) : Prop := l.take k = l2.take k
theorem EqTo.next {α : Type} {l l2 : List α} {k : Nat} (h : EqTo l l2 k) (h1 : k < l.length) (h2 : k < l2.length) (e : l[k] = l2[k]) : EqTo l l2 (k + 1) := by
 show l.take (k + 1) = l2.take (k + 1)
 rw [List.take_succ_eq_append_getElem h1, List.take_succ_eq_append_getElem h2, e]
 exact congrArg (· ++ _) h
theorem EqTo.done {α : Type} {l l2 : List α} {k : Nat} (h : EqTo l l2 k) (h1 : k = l.length) (h2 : k = l2.length) : l = l2 := by
 have h3 : l.take k = l2.take k := h
 rwa [h1, List.take_length, ← h1, h2, List.take_length] at h3
theorem at_ne {α : Type} {l l2 : List α} {k : Nat} (h1 : k < l.length) (h2 : k < l2.length) (e : l[k] ≠ l2[k]) : l ≠ l2 := by
 intro h
 subst h
 exact e rfl
set_option maxHeartbeats 1000000 in
theorem equalI_c (A B : Option Addr) (l l2 : List Int) (n m c c2 : Nat) (hn : n = l.length) (hm : m = l2.length) (h9 : n = m → n ≤ 1100) (w : World) (O O2 : Nat → Prop) (h : ZsO w O A l) (h2 : ZsO w O2 B l2) :
  Calls Tryz.prog 70 #[.slice A n c, .slice B m c2] w (BoolG w (decide (l = l2))) := by
 have H1 := Lib.hid h
 have H2 := Lib.hid h2
 have HN := Lib.hid hn
 have HM := Lib.hid hm
 obtain ⟨v, hv⟩ : ∃ v, v = decide (l = l2) := ⟨_, rfl⟩
 have V := Lib.hid hv
 rw [← hv]
 clear h h2 hn hm hv
 by_cases hl : n = m
 ·subst hl
  have h9 := h9 rfl
  go_enter Tryz.func70, Tryz.ntmps70
  go_wp2
  go_loopw [13] (fun iv wr => ∃ k : Nat, k ≤ n ∧ iv = .int .i64 k ∧ Hid (EqTo l l2 k) ∧ Hid (Below w.heap.size w wr)) (fun iv _ => n - (intOf iv).toNat)
  case atStart => exact ⟨0, Nat.zero_le _, rfl, Lib.hid rfl, Lib.hid (Below.refl _ _)⟩
  case round =>
   obtain ⟨k, hk, rfl, HK, HB⟩ := hrel
   by_cases hlt : k < n
   ·have hlt' : (k : Int) < (n : Int) := by omega
    have K1 : Hid (k < l.length) := Lib.hid (by rw [← HN.out]; exact hlt)
    have K2 : Hid (k < l2.length) := Lib.hid (by rw [← HM.out]; exact hlt)
    obtain ⟨b1, o1, rfl, -, hb1, hc1⟩ := H1.out.2 (by rw [← HN.out]; omega)
    have hq1 := hc1 k K1.out
    clear hc1
    dsimp only at hq1
    rw [getD_at K1.out] at hq1
    obtain ⟨z1, E1⟩ : ∃ z, Hid (z = l[k]'K1.out) := ⟨_, Lib.hid rfl⟩
    rw [← E1.out] at hq1
    have p1 : w.cell? ⟨b1, o1 + k, none⟩ = some (.int .i64 z1) := by simpa using hq1
    have q1 := (HB.out.cell (block_lt p1)).trans p1
    clear p1 hq1 hb1
    obtain ⟨b2, o2, rfl, -, hb2, hc2⟩ := H2.out.2 (by rw [← HM.out]; omega)
    have hq2 := hc2 k K2.out
    clear hc2
    dsimp only at hq2
    rw [getD_at K2.out] at hq2
    obtain ⟨z2, E2⟩ : ∃ z, Hid (z = l2[k]'K2.out) := ⟨_, Lib.hid rfl⟩
    rw [← E2.out] at hq2
    have p2 : w.cell? ⟨b2, o2 + k, none⟩ = some (.int .i64 z2) := by simpa using hq2
    have q2 := (HB.out.cell (block_lt p2)).trans p2
    clear p2 hq2 hb2
    have BN : ∀ nq, Hid (Below w.heap.size w (wr.drewN nq)) := fun nq => Lib.hid (below_n HB.out nq)
    by_cases e : z1 = z2
    ·have R := Lib.hid (HK.out.next K1.out K2.out (by rw [← E1.out, ← E2.out, e]))
     clear E1 E2
     subst e
     go_wp2_with fail
     go_quiet (fail)
     go_wp2
     go_roundw
     case rel => exact ⟨k + 1, by omega, by go_num, R, BN _⟩
     case measure => simp [intOf]; omega
    ·have R : Hid (v = false) := Lib.hid (by rw [V.out]; exact decide_eq_false (at_ne K1.out K2.out (by rw [← E1.out, ← E2.out]; exact e)))
     have e' : (z1 != z2) = true := by simpa using e
     clear E1 E2
     go_wp2_with fail
     go_quiet (fail)
     go_wp2
     go_ret
     exact ⟨ret_bool R.out.symm, BN _⟩
   ·obtain rfl : k = n := by omega
    have hge : ¬ (k : Int) < (k : Int) := by omega
    have R : Hid (v = true) := Lib.hid (by rw [V.out]; exact decide_eq_true (HK.out.done HN.out HM.out))
    go_wp2
    go_ret
    exact ⟨ret_bool R.out.symm, HB⟩
 ·have R : Hid (v = false) := Lib.hid (by rw [V.out]; exact decide_eq_false fun e => hl (by rw [HN.out, HM.out, e]))
  have hl' : ((n : Int) != (m : Int)) = true := by simp; omega
  go_enter Tryz.func70, Tryz.ntmps70
  go_wp2
  go_ret
  exact ⟨ret_bool R.out.symm, Lib.hid (Below.refl _ _)⟩
set_option maxHeartbeats 1000000 in
theorem equalS_p (A B : Option Addr) (l l2 : List Tx.T) (n m c c2 : Nat) (hn : n = l.length) (hm : m = l2.length) (h9 : n ≤ 1100) (w : World) (O O2 : Nat → Prop) (h : SigsO w O A l) (h2 : SigsO w O2 B l2) :
  Calls Tryz.prog 42 #[.slice A n c, .slice B m c2] w (BoolG w (decide (l = l2))) := by
 have H1 := Lib.hid h
 have H2 := Lib.hid h2
 have HN := Lib.hid hn
 have HM := Lib.hid hm
 obtain ⟨v, hv⟩ : ∃ v, v = decide (l = l2) := ⟨_, rfl⟩
 have V := Lib.hid hv
 rw [← hv]
 clear h h2 hn hm hv
 by_cases hl : n = m
 ·subst hl
  go_enter Tryz.func42, Tryz.ntmps42
  go_wp2
  go_loopw [13] (fun iv wr => ∃ k : Nat, k ≤ n ∧ iv = .int .i64 k ∧ Hid (EqTo l l2 k) ∧ Hid (Below w.heap.size w wr)) (fun iv _ => n - (intOf iv).toNat)
  case atStart => exact ⟨0, Nat.zero_le _, rfl, Lib.hid rfl, Lib.hid (Below.refl _ _)⟩
  case round =>
   obtain ⟨k, hk, rfl, HK, HB⟩ := hrel
   by_cases hlt : k < n
   ·have hlt' : (k : Int) < (n : Int) := by omega
    have K1 : Hid (k < l.length) := Lib.hid (by rw [← HN.out]; exact hlt)
    have K2 : Hid (k < l2.length) := Lib.hid (by rw [← HM.out]; exact hlt)
    obtain ⟨b1, o1, rfl, -, hb1, hc1⟩ := H1.out (by rw [← HN.out]; omega)
    have hq1 := hc1 k K1.out
    clear hc1
    dsimp only at hq1
    rw [getD_at K1.out] at hq1
    obtain ⟨z1, E1⟩ : ∃ z, Hid (z = l[k]'K1.out) := ⟨_, Lib.hid rfl⟩
    rw [← E1.out] at hq1
    have p1 : w.cell? ⟨b1, o1 + k, none⟩ = some (.string (str z1)) := by simpa using hq1
    have q1 := (HB.out.cell (block_lt p1)).trans p1
    clear p1 hq1 hb1
    obtain ⟨b2, o2, rfl, -, hb2, hc2⟩ := H2.out (by rw [← HM.out]; omega)
    have hq2 := hc2 k K2.out
    clear hc2
    dsimp only at hq2
    rw [getD_at K2.out] at hq2
    obtain ⟨z2, E2⟩ : ∃ z, Hid (z = l2[k]'K2.out) := ⟨_, Lib.hid rfl⟩
    rw [← E2.out] at hq2
    have p2 : w.cell? ⟨b2, o2 + k, none⟩ = some (.string (str z2)) := by simpa using hq2
    have q2 := (HB.out.cell (block_lt p2)).trans p2
    clear p2 hq2 hb2
    have BN : ∀ nq, Hid (Below w.heap.size w (wr.drewN nq)) := fun nq => Lib.hid (below_n HB.out nq)
    by_cases e : z1 = z2
    ·have R := Lib.hid (HK.out.next K1.out K2.out (by rw [← E1.out, ← E2.out, e]))
     clear E1 E2
     subst e
     have e' : ((str z1).toList == (str z1).toList) = true := by simp
     go_wp2_with fail
     go_quiet (fail)
     go_wp2
     go_roundw
     case rel => exact ⟨k + 1, by omega, by go_num, R, BN _⟩
     case measure => simp [intOf]; omega
    ·have R : Hid (v = false) := Lib.hid (by rw [V.out]; exact decide_eq_false (at_ne K1.out K2.out (by rw [← E1.out, ← E2.out]; exact e)))
     have e' : ((str z1).toList == (str z2).toList) = false := bs_ne fun h => e (str_inj.1 h)
     clear E1 E2
     go_wp2_with fail
     go_quiet (fail)
     go_wp2
     go_ret
     exact ⟨ret_bool R.out.symm, BN _⟩
   ·obtain rfl : k = n := by omega
    have hge : ¬ (k : Int) < (k : Int) := by omega
    have R : Hid (v = true) := Lib.hid (by rw [V.out]; exact decide_eq_true (HK.out.done HN.out HM.out))
    go_wp2
    go_ret
    exact ⟨ret_bool R.out.symm, HB⟩
 ·have R : Hid (v = false) := Lib.hid (by rw [V.out]; exact decide_eq_false fun e => hl (by rw [HN.out, HM.out, e]))
  have hl' : ((n : Int) != (m : Int)) = true := by simp; omega
  go_enter Tryz.func42, Tryz.ntmps42
  go_wp2
  go_ret
  exact ⟨ret_bool R.out.symm, Lib.hid (Below.refl _ _)⟩
set_option maxHeartbeats 1000000 in
theorem equalT_p (A B : Option Addr) (l l2 : List Rn.Tk) (n m c c2 : Nat) (hn : n = l.length) (hm : m = l2.length) (h9 : n ≤ 1100) (d1 : ∀ k ∈ l, k.da.length ≤ 9223372036854775807) (d2 : ∀ k ∈ l2, k.da.length ≤ 9223372036854775807) (w : World) (O O2 : Nat → Prop) (h : TksO w O A l) (h2 : TksO w O2 B l2) :
  Calls Tryz.prog 50 #[.slice A n c, .slice B m c2] w (BoolG w (decide (l = l2))) := by
 have H1 := Lib.hid h
 have H2 := Lib.hid h2
 have HN := Lib.hid hn
 have HM := Lib.hid hm
 have D1 := Lib.hid d1
 have D2 := Lib.hid d2
 clear d1 d2
 obtain ⟨v, hv⟩ : ∃ v, v = decide (l = l2) := ⟨_, rfl⟩
 have V := Lib.hid hv
 rw [← hv]
 clear h h2 hn hm hv
 by_cases hl : n = m
 ·subst hl
  go_enter Tryz.func50, Tryz.ntmps50
  go_wp2
  go_loopw [13] (fun iv wr => ∃ k : Nat, k ≤ n ∧ iv = .int .i64 k ∧ Hid (EqTo l l2 k) ∧ Hid (Below w.heap.size w wr)) (fun iv _ => n - (intOf iv).toNat)
  case atStart => exact ⟨0, Nat.zero_le _, rfl, Lib.hid rfl, Lib.hid (Below.refl _ _)⟩
  case round =>
   obtain ⟨k, hk, rfl, HK, HB⟩ := hrel
   by_cases hlt : k < n
   ·have hlt' : (k : Int) < (n : Int) := by omega
    have K1 : Hid (k < l.length) := Lib.hid (by rw [← HN.out]; exact hlt)
    have K2 : Hid (k < l2.length) := Lib.hid (by rw [← HM.out]; exact hlt)
    obtain ⟨b1, o1, rfl, -, hb1, hc1⟩ := H1.out.2 (by rw [← HN.out]; omega)
    have hq1 := hc1 k K1.out
    clear hc1
    dsimp only at hq1
    rw [getD_at K1.out] at hq1
    obtain ⟨z1, E1⟩ : ∃ z, Hid (z = l[k]'K1.out) := ⟨_, Lib.hid rfl⟩
    have I1 : Hid (tkIn z1) := Lib.hid (by rw [E1.out]; exact H1.out.1 _ (List.getElem_mem _))
    have J1 : Hid (z1.da.length ≤ 9223372036854775807) := Lib.hid (by rw [E1.out]; exact D1.out _ (List.getElem_mem _))
    rw [← E1.out] at hq1
    have s10 : w.cell? ⟨b1, o1 + k * 4, none⟩ = some (.int .i64 z1.ph) := hq1.1
    have s11 : w.cell? ⟨b1, o1 + k * 4 + 1, none⟩ = some (.int .i64 z1.tr) := hq1.2.1
    have s12 : w.cell? ⟨b1, o1 + k * 4 + 2, none⟩ = some (.int .i64 z1.un) := hq1.2.2.1
    have s13 : w.cell? ⟨b1, o1 + k * 4 + 3, none⟩ = some (.string (str z1.da)) := hq1.2.2.2
    have t10 := (HB.out.cell (block_lt s10)).trans s10
    have t11 := (HB.out.cell (block_lt s11)).trans s11
    have t12 := (HB.out.cell (block_lt s12)).trans s12
    have t13 := (HB.out.cell (block_lt s13)).trans s13
    clear s10 s11 s12 s13 hb1 hq1
    obtain ⟨b2, o2, rfl, -, hb2, hc2⟩ := H2.out.2 (by rw [← HM.out]; omega)
    have hq2 := hc2 k K2.out
    clear hc2
    dsimp only at hq2
    rw [getD_at K2.out] at hq2
    obtain ⟨z2, E2⟩ : ∃ z, Hid (z = l2[k]'K2.out) := ⟨_, Lib.hid rfl⟩
    have I2 : Hid (tkIn z2) := Lib.hid (by rw [E2.out]; exact H2.out.1 _ (List.getElem_mem _))
    have J2 : Hid (z2.da.length ≤ 9223372036854775807) := Lib.hid (by rw [E2.out]; exact D2.out _ (List.getElem_mem _))
    rw [← E2.out] at hq2
    have s20 : w.cell? ⟨b2, o2 + k * 4, none⟩ = some (.int .i64 z2.ph) := hq2.1
    have s21 : w.cell? ⟨b2, o2 + k * 4 + 1, none⟩ = some (.int .i64 z2.tr) := hq2.2.1
    have s22 : w.cell? ⟨b2, o2 + k * 4 + 2, none⟩ = some (.int .i64 z2.un) := hq2.2.2.1
    have s23 : w.cell? ⟨b2, o2 + k * 4 + 3, none⟩ = some (.string (str z2.da)) := hq2.2.2.2
    have t20 := (HB.out.cell (block_lt s20)).trans s20
    have t21 := (HB.out.cell (block_lt s21)).trans s21
    have t22 := (HB.out.cell (block_lt s22)).trans s22
    have t23 := (HB.out.cell (block_lt s23)).trans s23
    clear s20 s21 s22 s23 hb2 hq2
    have BN : ∀ nq, Hid (Below w.heap.size w (wr.drewN nq)) := fun nq => Lib.hid (below_n HB.out nq)
    by_cases e : z1 = z2
    ·have R := Lib.hid (HK.out.next K1.out K2.out (by rw [← E1.out, ← E2.out, e]))
     clear E1 E2
     subst e
     have NQ : ∀ W, (binOp .neq 47 (.agg #[.int .i64 z1.ph, .int .i64 z1.tr, .int .i64 z1.un, .string (str z1.da)]) (.agg #[.int .i64 z1.ph, .int .i64 z1.tr, .int .i64 z1.un, .string (str z1.da)])).run Tryz.prog W = .ok (.bool false) W := fun W => by have := tk_neq z1 z1 I1.out I1.out J1.out J1.out W; rw [decide_eq_true rfl] at this; exact this
     go_wp2_with fail
     go_quiet (fail)
     go_wp2
     go_roundw
     case rel => exact ⟨k + 1, by omega, by go_num, R, BN _⟩
     case measure => simp [intOf]; omega
    ·have R : Hid (v = false) := Lib.hid (by rw [V.out]; exact decide_eq_false (at_ne K1.out K2.out (by rw [← E1.out, ← E2.out]; exact e)))
     have NQ : ∀ W, (binOp .neq 47 (.agg #[.int .i64 z1.ph, .int .i64 z1.tr, .int .i64 z1.un, .string (str z1.da)]) (.agg #[.int .i64 z2.ph, .int .i64 z2.tr, .int .i64 z2.un, .string (str z2.da)])).run Tryz.prog W = .ok (.bool true) W := fun W => by have := tk_neq z1 z2 I1.out I2.out J1.out J2.out W; rw [decide_eq_false e] at this; exact this
     clear E1 E2
     go_wp2_with fail
     go_quiet (fail)
     go_wp2
     go_ret
     exact ⟨ret_bool R.out.symm, BN _⟩
   ·obtain rfl : k = n := by omega
    have hge : ¬ (k : Int) < (k : Int) := by omega
    have R : Hid (v = true) := Lib.hid (by rw [V.out]; exact decide_eq_true (HK.out.done HN.out HM.out))
    go_wp2
    go_ret
    exact ⟨ret_bool R.out.symm, HB⟩
 ·have R : Hid (v = false) := Lib.hid (by rw [V.out]; exact decide_eq_false fun e => hl (by rw [HN.out, HM.out, e]))
  have hl' : ((n : Int) != (m : Int)) = true := by simp; omega
  go_enter Tryz.func50, Tryz.ntmps50
  go_wp2
  go_ret
  exact ⟨ret_bool R.out.symm, Lib.hid (Below.refl _ _)⟩
end Go.Proofs.YtkbekojnmdgdgaaGreatDoor
/- RnSame -/
namespace Go.Proofs.YtkbekojnmdgdgaaGreatDoor
open Go.RowKit
set_option maxRecDepth 20000
theorem task_eq (a b : Df.Task) : a = b ↔ a.name = b.name ∧ a.after = b.after ∧ a.retry = b.retry ∧ a.wait = b.wait ∧ a.base = b.base ∧ a.on = b.on := by
 constructor
 ·rintro rfl; exact ⟨rfl, rfl, rfl, rfl, rfl, rfl⟩
 ·obtain ⟨a1, a2, a3, a4, a5, a6⟩ := a
  obtain ⟨b1, b2, b3, b4, b5, b6⟩ := b
  rintro ⟨h1, h2, h3, h4, h5, h6⟩
  simp only at *
  subst h1 h2 h3 h4 h5 h6
  rfl
theorem run_eq (a b : Rn.R) : a = b ↔ a.d = b.d ∧ a.st = b.st ∧ a.ts = b.ts ∧ a.sg = b.sg := by
 constructor
 ·rintro rfl; exact ⟨rfl, rfl, rfl, rfl⟩
 ·obtain ⟨a1, a2, a3, a4⟩ := a
  obtain ⟨b1, b2, b3, b4⟩ := b
  rintro ⟨h1, h2, h3, h4⟩
  simp only at *
  subst h1 h2 h3 h4
  rfl
theorem str_beq {a b : Tx.T} (h : a = b) : ((str a).toList == (str b).toList) = true := by rw [h]; simp
theorem str_bne {a b : Tx.T} (h : ¬ a = b) : ((str a).toList == (str b).toList) = false := bs_ne fun e => h (str_inj.1 e)
set_option maxHeartbeats 2000000 in
theorem sameTask_p (a b : Df.Task) (A B : Option Addr) (c1 c2 : Nat) (h9 : a.after.length = b.after.length → a.after.length ≤ 1100) (w : World) (O O2 : Nat → Prop) (ha : ZsO w O A a.after) (hb : ZsO w O2 B b.after) :
  Calls Tryz.prog 52 #[.agg #[.string (str a.name), .slice A a.after.length c1, .int .i64 a.retry, .int .i64 a.wait, .int .i64 a.base, .string (str a.on)], .agg #[.string (str b.name), .slice B b.after.length c2, .int .i64 b.retry, .int .i64 b.wait, .int .i64 b.base, .string (str b.on)]] w (BoolG w (decide (a = b))) := by
 have EQ := Lib.hid (task_eq a b)
 have CE : Hid (∀ W n m, Below w.heap.size w W → n = a.after.length → m = b.after.length → Calls Tryz.prog 70 #[.slice A n c1, .slice B m c2] W (BoolG W (decide (a.after = b.after)))) := Lib.hid fun W n m h hn hm =>
  equalI_c A B a.after b.after n m c1 c2 hn hm (by rw [hn, hm]; exact h9) W O O2 (ha.keep h.size fun k _ hl => h.block k hl) (hb.keep h.size fun k _ hl => h.block k hl)
 obtain ⟨v, hv⟩ : ∃ v, v = decide (a = b) := ⟨_, rfl⟩
 have V := Lib.hid hv
 rw [← hv]
 obtain ⟨n, hn⟩ : ∃ n, n = a.after.length := ⟨_, rfl⟩
 obtain ⟨m, hm⟩ : ∃ m, m = b.after.length := ⟨_, rfl⟩
 rw [← hn, ← hm]
 have HN := Lib.hid hn
 have HM := Lib.hid hm
 clear hv ha hb hn hm h9
 obtain ⟨W0, hW0⟩ : ∃ W0, W0 = (w.alloc (.cells #[.string (str a.name), .slice A n c1, .int .i64 a.retry, .int .i64 a.wait, .int .i64 a.base, .string (str a.on)] 96)).alloc (.cells #[.string (str b.name), .slice B m c2, .int .i64 b.retry, .int .i64 b.wait, .int .i64 b.base, .string (str b.on)] 96) := ⟨_, rfl⟩
 have B0 : Hid (Below w.heap.size w W0) := Lib.hid (by rw [hW0]; exact box2 _ _ _)
 have X0 : Hid (W0.heap[w.heap.size]? = some (.cells #[.string (str a.name), .slice A n c1, .int .i64 a.retry, .int .i64 a.wait, .int .i64 a.base, .string (str a.on)] 96 (0, 0))) := Lib.hid (by rw [hW0]; exact box0' _ _ _)
 have Y0 : Hid (W0.heap[w.heap.size + 1]? = some (.cells #[.string (str b.name), .slice B m c2, .int .i64 b.retry, .int .i64 b.wait, .int .i64 b.base, .string (str b.on)] 96 (0, 0))) := Lib.hid (by rw [hW0]; exact box1 _ _ _)
 obtain ⟨x0, x1, x2, x3, x4, x5⟩ := ob6 X0.out
 obtain ⟨y0, y1, y2, y3, y4, y5⟩ := ob6 Y0.out
 generalize a.retry = r1 at *
 generalize a.wait = q1 at *
 generalize a.base = s1 at *
 generalize b.retry = r2 at *
 generalize b.wait = q2 at *
 generalize b.base = s2 at *
 go_enter Tryz.func52, Tryz.ntmps52
 go_upto_region 1 with (fail)
 rw [← hW0]
 clear hW0
 by_cases e0 : a.name = b.name
 ·have t0 := str_beq e0
  go_wp2_with fail
  (with_reducible refine (CE.out W0 n m B0.out HN.out HM.out).mono ?_); rintro e W1 ⟨rfl, b1⟩
  have B1 : Hid (Below w.heap.size w W1) := Lib.hid (B0.out.trans (b1.out.mono B0.out.size))
  have X1 := (b1.out.block _ (lt_of_block X0.out)).trans X0.out
  have Y1 := (b1.out.block _ (lt_of_block Y0.out)).trans Y0.out
  clear x0 x1 x2 x3 x4 x5 y0 y1 y2 y3 y4 y5
  obtain ⟨x0, x1, x2, x3, x4, x5⟩ := ob6 X1
  obtain ⟨y0, y1, y2, y3, y4, y5⟩ := ob6 Y1
  clear X1 Y1
  by_cases e1 : a.after = b.after
  ·rw [decide_eq_true e1]
   have E1 := Lib.hid e1
   have E0 := Lib.hid e0
   clear e1 e0
   by_cases e2 : r1 = r2
   ·subst e2
    by_cases e3 : q1 = q2
    ·subst e3
     by_cases e4 : s1 = s2
     ·subst e4
      by_cases e5 : a.on = b.on
      ·have t5 := str_beq e5
       have R : Hid (v = true) := Lib.hid (by rw [V.out]; exact decide_eq_true (EQ.out.2 ⟨E0.out, E1.out, by simp, by simp, by simp, e5⟩))
       clear EQ V
       go_wp2
       go_ret
       exact ⟨ret_bool R.out.symm, B1⟩
      ·have t5 := str_bne e5
       have R : Hid (v = false) := Lib.hid (by rw [V.out]; exact decide_eq_false fun e => e5 (EQ.out.1 e).2.2.2.2.2)
       clear EQ V
       go_wp2
       go_ret
       exact ⟨ret_bool R.out.symm, B1⟩
     ·have t4 : (s1 == s2) = false := by simpa using e4
      have R : Hid (v = false) := Lib.hid (by rw [V.out]; exact decide_eq_false fun e => e4 (EQ.out.1 e).2.2.2.2.1)
      clear EQ V
      go_wp2
      go_ret
      exact ⟨ret_bool R.out.symm, B1⟩
    ·have t3 : (q1 == q2) = false := by simpa using e3
     have R : Hid (v = false) := Lib.hid (by rw [V.out]; exact decide_eq_false fun e => e3 (EQ.out.1 e).2.2.2.1)
     clear EQ V
     go_wp2
     go_ret
     exact ⟨ret_bool R.out.symm, B1⟩
   ·have t2 : (r1 == r2) = false := by simpa using e2
    have R : Hid (v = false) := Lib.hid (by rw [V.out]; exact decide_eq_false fun e => e2 (EQ.out.1 e).2.2.1)
    clear EQ V
    go_wp2
    go_ret
    exact ⟨ret_bool R.out.symm, B1⟩
  ·rw [decide_eq_false e1]
   have R : Hid (v = false) := Lib.hid (by rw [V.out]; exact decide_eq_false fun e => e1 (EQ.out.1 e).2.1)
   clear EQ V
   go_wp2
   go_ret
   exact ⟨ret_bool R.out.symm, B1⟩
 ·have t0 := str_bne e0
  have R : Hid (v = false) := Lib.hid (by rw [V.out]; exact decide_eq_false fun e => e0 (EQ.out.1 e).1)
  clear EQ V
  go_wp2
  go_ret
  exact ⟨ret_bool R.out.symm, B0⟩
set_option maxHeartbeats 2000000 in
theorem equalD_p (A B : Option Addr) (l l2 : Df.D) (n m c c2 : Nat) (hn : n = l.length) (hm : m = l2.length) (hf : Fair l ∨ Fair l2) (w : World) (O O2 : Nat → Prop) (h : DefO w O A l) (h2 : DefO w O2 B l2) :
  Calls Tryz.prog 51 #[.slice A n c, .slice B m c2, .func (.func 52) #[] #[]] w (BoolG w (decide (l = l2))) := by
 have H1 := Lib.hid h
 have H2 := Lib.hid h2
 have HN := Lib.hid hn
 have HM := Lib.hid hm
 have HF := Lib.hid hf
 have h9 : n = m → n ≤ 1100 := fun e => by
  rcases hf with h | h
  ·rw [hn]; exact h.1
  ·rw [e, hm]; exact h.1
 obtain ⟨v, hv⟩ : ∃ v, v = decide (l = l2) := ⟨_, rfl⟩
 have V := Lib.hid hv
 rw [← hv]
 clear h h2 hn hm hv hf
 by_cases hl : n = m
 ·subst hl
  have h9 := h9 rfl
  go_enter Tryz.func51, Tryz.ntmps51
  go_wp2
  go_loopw [17] (fun iv wr => ∃ k : Nat, k ≤ n ∧ iv = .int .i64 k ∧ Hid (EqTo l l2 k) ∧ Hid (Below w.heap.size w wr)) (fun iv _ => n - (intOf iv).toNat)
  case atStart => exact ⟨0, Nat.zero_le _, rfl, Lib.hid rfl, Lib.hid (Below.refl _ _)⟩
  case round =>
   obtain ⟨k, hk, rfl, HK, HB⟩ := hrel
   by_cases hlt : k < n
   ·have hlt' : (k : Int) < (n : Int) := by omega
    have K1 : Hid (k < l.length) := Lib.hid (by rw [← HN.out]; exact hlt)
    have K2 : Hid (k < l2.length) := Lib.hid (by rw [← HM.out]; exact hlt)
    obtain ⟨g1, o1, A1, d1, t1, rfl, -, ht1, z1, -, -, x0, x1, x2, x3, x4, x5⟩ := (H1.out.keep HB.out.size fun b _ hl => HB.out.block b hl).at_ K1.out
    obtain ⟨g2, o2, A2, d2, t2, rfl, -, ht2, z2, -, -, y0, y1, y2, y3, y4, y5⟩ := (H2.out.keep HB.out.size fun b _ hl => HB.out.block b hl).at_ K2.out
    have E1 : Hid (t1 = l[k]'K1.out) := Lib.hid (by have := ht1.out; rw [List.getElem?_eq_getElem K1.out] at this; exact (Option.some.inj this).symm)
    have E2 : Hid (t2 = l2[k]'K2.out) := Lib.hid (by have := ht2.out; rw [List.getElem?_eq_getElem K2.out] at this; exact (Option.some.inj this).symm)
    have L1 : Hid (t1.after.length = t2.after.length → t1.after.length ≤ 1100) := Lib.hid fun e => by
     rcases HF.out with h | h
     ·rw [E1.out]; exact (h.2 _ (List.getElem_mem _)).1
     ·rw [e, E2.out]; exact (h.2 _ (List.getElem_mem _)).1
    have CS : Hid (∀ W n m, Below wr.heap.size wr W → n = t1.after.length → m = t2.after.length → Calls Tryz.prog 52 #[.agg #[.string (str t1.name), .slice A1 n d1, .int .i64 t1.retry, .int .i64 t1.wait, .int .i64 t1.base, .string (str t1.on)], .agg #[.string (str t2.name), .slice A2 m d2, .int .i64 t2.retry, .int .i64 t2.wait, .int .i64 t2.base, .string (str t2.on)]] W (BoolG W (decide (t1 = t2)))) := Lib.hid fun W n m hW hn hm => by
     rw [hn, hm]
     exact sameTask_p t1 t2 A1 A2 d1 d2 L1.out W _ _ (z1.out.keep hW.size fun b _ hl => hW.block b hl) (z2.out.keep hW.size fun b _ hl => hW.block b hl)
    clear ht1 ht2 z1 z2 L1
    obtain ⟨n1, hn1⟩ : ∃ n1, n1 = t1.after.length := ⟨_, rfl⟩
    obtain ⟨n2, hn2⟩ : ∃ n2, n2 = t2.after.length := ⟨_, rfl⟩
    rw [← hn1] at x1
    rw [← hn2] at y1
    have N1 := Lib.hid hn1
    have N2 := Lib.hid hn2
    clear hn1 hn2
    obtain ⟨W1, hW1⟩ : ∃ W1, W1 = (wr.alloc (.cells #[.string (str t1.name), .slice A1 n1 d1, .int .i64 t1.retry, .int .i64 t1.wait, .int .i64 t1.base, .string (str t1.on)] 96)).alloc (.cells #[.string (str t2.name), .slice A2 n2 d2, .int .i64 t2.retry, .int .i64 t2.wait, .int .i64 t2.base, .string (str t2.on)] 96) := ⟨_, rfl⟩
    have BB : Hid (Below wr.heap.size wr W1) := Lib.hid (by rw [hW1]; exact box2 _ _ _)
    have X1 : Hid (W1.heap[wr.heap.size]? = some (.cells #[.string (str t1.name), .slice A1 n1 d1, .int .i64 t1.retry, .int .i64 t1.wait, .int .i64 t1.base, .string (str t1.on)] 96 (0, 0))) := Lib.hid (by rw [hW1]; exact box0' _ _ _)
    have Y1 : Hid (W1.heap[wr.heap.size + 1]? = some (.cells #[.string (str t2.name), .slice A2 n2 d2, .int .i64 t2.retry, .int .i64 t2.wait, .int .i64 t2.base, .string (str t2.on)] 96 (0, 0))) := Lib.hid (by rw [hW1]; exact box1 _ _ _)
    have AL := fun (o : Nat) (v : Value) (hc : wr.cell? ⟨g2, o, none⟩ = some v) => (((Below.refl wr.heap.size wr).alloc (Nat.le_refl _) (.cells #[.string (str t1.name), .slice A1 n1 d1, .int .i64 t1.retry, .int .i64 t1.wait, .int .i64 t1.base, .string (str t1.on)] 96)).cell (block_lt hc)).trans hc
    have Z0 := AL _ _ y0
    have Z1 := AL _ _ y1
    have Z2 := AL _ _ y2
    have Z3 := AL _ _ y3
    have Z4 := AL _ _ y4
    have Z5 := AL _ _ y5
    clear AL
    go_upto_region 7 with (fail)
    rw [← hW1]
    clear hW1 x0 x1 x2 x3 x4 x5 y0 y1 y2 y3 y4 y5 Z0 Z1 Z2 Z3 Z4 Z5
    obtain ⟨x0, x1, x2, x3, x4, x5⟩ := ob6 X1.out
    obtain ⟨y0, y1, y2, y3, y4, y5⟩ := ob6 Y1.out
    have BW : Hid (Below w.heap.size w W1) := Lib.hid (HB.out.trans (BB.out.mono HB.out.size))
    go_wp2_with fail
    (with_reducible refine (CS.out W1 n1 n2 BB.out N1.out N2.out).mono ?_); rintro e W2 ⟨rfl, b2⟩
    have B2 : Hid (Below w.heap.size w W2) := Lib.hid (BW.out.trans (b2.out.mono BW.out.size))
    by_cases e : t1 = t2
    ·rw [decide_eq_true e]
     have R := Lib.hid (HK.out.next K1.out K2.out (by rw [← E1.out, ← E2.out, e]))
     clear E1 E2 e
     go_wp2
     go_roundw
     case rel => exact ⟨k + 1, by omega, by go_num, R, B2⟩
     case measure => simp [intOf]; omega
    ·rw [decide_eq_false e]
     have R : Hid (v = false) := Lib.hid (by rw [V.out]; exact decide_eq_false (at_ne K1.out K2.out (by rw [← E1.out, ← E2.out]; exact e)))
     clear E1 E2 e
     go_wp2
     go_ret
     exact ⟨ret_bool R.out.symm, B2⟩
   ·obtain rfl : k = n := by omega
    have hge : ¬ (k : Int) < (k : Int) := by omega
    have R : Hid (v = true) := Lib.hid (by rw [V.out]; exact decide_eq_true (HK.out.done HN.out HM.out))
    go_wp2
    go_ret
    exact ⟨ret_bool R.out.symm, HB⟩
 ·have R : Hid (v = false) := Lib.hid (by rw [V.out]; exact decide_eq_false fun e => hl (by rw [HN.out, HM.out, e]))
  have hl' : ((n : Int) != (m : Int)) = true := by simp; omega
  go_enter Tryz.func51, Tryz.ntmps51
  go_wp2
  go_ret
  exact ⟨ret_bool R.out.symm, Lib.hid (Below.refl _ _)⟩
structure SmOk (r x : Rn.R) : Prop where
 t : r.ts.length ≤ 1100
 s : r.sg.length ≤ 1100
 d : Fair r.d ∨ Fair x.d
 da : ∀ k ∈ r.ts, k.da.length ≤ 9223372036854775807
 da2 : ∀ k ∈ x.ts, k.da.length ≤ 9223372036854775807
theorem RunO.w {w : World} {O : Nat → Prop} {p : At3} {r : Rn.R} (h : RunO w O p r) : RunW w O p r := ⟨h.d, h.t, h.s⟩
theorem RunW.on {w w' : World} {O : Nat → Prop} {p : At3} {r : Rn.R} (h : RunW w O p r) (hb : Below w.heap.size w w') : RunW w' O p r := ⟨h.d.keep hb.size fun b _ hl => hb.block b hl, h.t.keep hb.size fun b _ hl => hb.block b hl, RowO.keep h.s hb.size fun b _ hl => hb.block b hl⟩
set_option maxHeartbeats 2000000 in
theorem same_w (p : At3) (r : Rn.R) (w : World) (O : Nat → Prop) (h : RunW w O p r) (q : At3) (x : Rn.R) (O2 : Nat → Prop) (hx : RunW w O2 q x) (hS : SmOk r x) :
  Calls Tryz.prog 26 #[rv p r, rv q x] w fun e w' => e = .returned (.bool (Rn.sameV r x)) ∧ Hid (Below w.heap.size w w') := by
 have EQ := Lib.hid (run_eq r x)
 have CT : Hid (∀ W n m, Below w.heap.size w W → n = r.ts.length → m = x.ts.length → Calls Tryz.prog 50 #[.slice p.T n p.ct, .slice q.T m q.ct] W (BoolG W (decide (r.ts = x.ts)))) := Lib.hid fun W n m hb hn hm =>
  equalT_p p.T q.T r.ts x.ts n m p.ct q.ct hn hm (by rw [hn]; exact hS.t) hS.da hS.da2 W O O2 (h.on hb).t (hx.on hb).t
 have CS : Hid (∀ W n m, Below w.heap.size w W → n = r.sg.length → m = x.sg.length → Calls Tryz.prog 42 #[.slice p.S n p.cs, .slice q.S m q.cs] W (BoolG W (decide (r.sg = x.sg)))) := Lib.hid fun W n m hb hn hm =>
  equalS_p p.S q.S r.sg x.sg n m p.cs q.cs hn hm (by rw [hn]; exact hS.s) W O O2 (h.on hb).s (hx.on hb).s
 have CD : Hid (∀ W n m, Below w.heap.size w W → n = r.d.length → m = x.d.length → Calls Tryz.prog 51 #[.slice p.A n p.ca, .slice q.A m q.ca, .func (.func 52) #[] #[]] W (BoolG W (decide (r.d = x.d)))) := Lib.hid fun W n m hb hn hm =>
  equalD_p p.A q.A r.d x.d n m p.ca q.ca hn hm hS.d W O O2 (h.on hb).d (hx.on hb).d
 obtain ⟨v, hv⟩ : ∃ v, v = Rn.sameV r x := ⟨_, rfl⟩
 have V : Hid (v = decide (r = x)) := Lib.hid hv
 rw [← hv]
 obtain ⟨n, hn⟩ : ∃ n, n = r.d.length := ⟨_, rfl⟩
 obtain ⟨m, hm⟩ : ∃ m, m = r.ts.length := ⟨_, rfl⟩
 obtain ⟨l, hl⟩ : ∃ l, l = r.sg.length := ⟨_, rfl⟩
 obtain ⟨n2, hn2⟩ : ∃ n, n = x.d.length := ⟨_, rfl⟩
 obtain ⟨m2, hm2⟩ : ∃ m, m = x.ts.length := ⟨_, rfl⟩
 obtain ⟨l2, hl2⟩ : ∃ l, l = x.sg.length := ⟨_, rfl⟩
 unfold rv
 rw [← hn, ← hm, ← hl, ← hn2, ← hm2, ← hl2]
 have HN := Lib.hid hn
 have HM := Lib.hid hm
 have HL := Lib.hid hl
 have HN2 := Lib.hid hn2
 have HM2 := Lib.hid hm2
 have HL2 := Lib.hid hl2
 clear hn hm hl hn2 hm2 hl2 hS h hx hv
 obtain ⟨W0, hW0⟩ : ∃ W0, W0 = (w.alloc (.cells #[.slice p.A n p.ca, .int .i64 r.st, .slice p.T m p.ct, .slice p.S l p.cs] 41)).alloc (.cells #[.slice q.A n2 q.ca, .int .i64 x.st, .slice q.T m2 q.ct, .slice q.S l2 q.cs] 41) := ⟨_, rfl⟩
 have B0 : Hid (Below w.heap.size w W0) := Lib.hid (by rw [hW0]; exact box2 _ _ _)
 have X0 : Hid (W0.heap[w.heap.size]? = some (.cells #[.slice p.A n p.ca, .int .i64 r.st, .slice p.T m p.ct, .slice p.S l p.cs] 41 (0, 0))) := Lib.hid (by rw [hW0]; exact box0' _ _ _)
 have Y0 : Hid (W0.heap[w.heap.size + 1]? = some (.cells #[.slice q.A n2 q.ca, .int .i64 x.st, .slice q.T m2 q.ct, .slice q.S l2 q.cs] 41 (0, 0))) := Lib.hid (by rw [hW0]; exact box1 _ _ _)
 obtain ⟨⟨x0, x1, x2, x3⟩, -⟩ := obj4 X0.out
 obtain ⟨⟨y0, y1, y2, y3⟩, -⟩ := obj4 Y0.out
 generalize r.st = s1 at *
 generalize x.st = s2 at *
 go_enter Tryz.func26, Tryz.ntmps26
 go_upto_region 1 with (fail)
 rw [← hW0]
 clear hW0
 by_cases e0 : s1 = s2
 ·subst e0
  go_wp2_with fail
  (with_reducible refine (CT.out W0 m m2 B0.out HM.out HM2.out).mono ?_); rintro e W1 ⟨rfl, b1⟩
  have B1 : Hid (Below w.heap.size w W1) := Lib.hid (B0.out.trans (b1.out.mono B0.out.size))
  have X1 : Hid _ := Lib.hid ((b1.out.block _ (lt_of_block X0.out)).trans X0.out)
  have Y1 : Hid _ := Lib.hid ((b1.out.block _ (lt_of_block Y0.out)).trans Y0.out)
  clear x0 x1 x2 x3 y0 y1 y2 y3
  obtain ⟨⟨x0, x1, x2, x3⟩, -⟩ := obj4 X1.out
  obtain ⟨⟨y0, y1, y2, y3⟩, -⟩ := obj4 Y1.out
  by_cases e1 : r.ts = x.ts
  ·rw [decide_eq_true e1]
   have E1 := Lib.hid e1
   clear e1
   go_wp2_with fail
   (with_reducible refine (CS.out W1 l l2 B1.out HL.out HL2.out).mono ?_); rintro e W2 ⟨rfl, b2⟩
   have B2 : Hid (Below w.heap.size w W2) := Lib.hid (B1.out.trans (b2.out.mono B1.out.size))
   have X2 : Hid _ := Lib.hid ((b2.out.block _ (lt_of_block X1.out)).trans X1.out)
   have Y2 : Hid _ := Lib.hid ((b2.out.block _ (lt_of_block Y1.out)).trans Y1.out)
   clear x0 x1 x2 x3 y0 y1 y2 y3
   obtain ⟨⟨x0, x1, x2, x3⟩, -⟩ := obj4 X2.out
   obtain ⟨⟨y0, y1, y2, y3⟩, -⟩ := obj4 Y2.out
   by_cases e2 : r.sg = x.sg
   ·rw [decide_eq_true e2]
    have E2 := Lib.hid e2
    clear e2
    go_wp2_with fail
    (with_reducible refine (CD.out W2 n n2 B2.out HN.out HN2.out).mono ?_); rintro e W3 ⟨rfl, b3⟩
    have B3 : Hid (Below w.heap.size w W3) := Lib.hid (B2.out.trans (b3.out.mono B2.out.size))
    have X3 : Hid _ := Lib.hid ((b3.out.block _ (lt_of_block X2.out)).trans X2.out)
    have Y3 : Hid _ := Lib.hid ((b3.out.block _ (lt_of_block Y2.out)).trans Y2.out)
    clear x0 x1 x2 x3 y0 y1 y2 y3
    obtain ⟨⟨x0, x1, x2, x3⟩, -⟩ := obj4 X3.out
    obtain ⟨⟨y0, y1, y2, y3⟩, -⟩ := obj4 Y3.out
    by_cases e3 : r.d = x.d
    ·rw [decide_eq_true e3]
     have R : Hid (v = true) := Lib.hid (by rw [V.out]; exact decide_eq_true (EQ.out.2 ⟨e3, by simp, E1.out, E2.out⟩))
     clear EQ V e3
     go_wp2
     go_ret
     exact ⟨ret_bool R.out.symm, B3⟩
    ·rw [decide_eq_false e3]
     have R : Hid (v = false) := Lib.hid (by rw [V.out]; exact decide_eq_false fun e => e3 (EQ.out.1 e).1)
     clear EQ V
     go_wp2
     go_ret
     exact ⟨ret_bool R.out.symm, B3⟩
   ·rw [decide_eq_false e2]
    have R : Hid (v = false) := Lib.hid (by rw [V.out]; exact decide_eq_false fun e => e2 (EQ.out.1 e).2.2.2)
    clear EQ V
    go_wp2
    go_ret
    exact ⟨ret_bool R.out.symm, B2⟩
  ·rw [decide_eq_false e1]
   have R : Hid (v = false) := Lib.hid (by rw [V.out]; exact decide_eq_false fun e => e1 (EQ.out.1 e).2.2.1)
   clear EQ V
   go_wp2
   go_ret
   exact ⟨ret_bool R.out.symm, B1⟩
 ·have t0 : (s1 == s2) = false := by simpa using e0
  have R : Hid (v = false) := Lib.hid (by rw [V.out]; exact decide_eq_false fun e => e0 (EQ.out.1 e).2.1)
  clear EQ V
  go_wp2
  go_ret
  exact ⟨ret_bool R.out.symm, B0⟩
end Go.Proofs.YtkbekojnmdgdgaaGreatDoor
