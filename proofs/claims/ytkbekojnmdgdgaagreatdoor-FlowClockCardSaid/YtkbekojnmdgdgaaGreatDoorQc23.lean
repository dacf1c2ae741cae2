/-
  Part 23 of the texts behind the law: QRnSig, QRnCan, QRnNext.
-/
import Derived.Test.YtkbekojnmdgdgaaGreatDoorQc22
/- RnSig -/
namespace Go.Proofs.YtkbekojnmdgdgaaGreatDoor
open Go.RowKit
set_option maxRecDepth 20000
theorem Cp.sig {w W Wl W5 : World} {X Z base n m l : Nat} {st : Int} {q : At3} {r : Rn.R} (h : Cp w W X Z base q n st m l r) (hl : Below W.heap.size W Wl) {A4 : Option Addr} {cap4 : Nat} {x : Tx.T} (o4 : OwnK W5 base 9 1 A4 cap4 ((r.sg ++ [x]).map sgV))
    {l0 c0 : Nat} (g4 : Wl.grownBy W5 (Value.slice q.S l0 c0).ownBlock) (q4 : ∀ a, A4 = some a → (∃ a0, q.S = some a0 ∧ a.block = a0.block) ∨ a.block = Wl.heap.size) (l' : Nat) :
    Cp w (W5.setCell ⟨X, 3, none⟩ (.slice A4 l' cap4)) X Z base ⟨q.A, q.ca, q.T, q.ct, A4, cap4⟩ n st m l' ⟨r.d, r.st, r.ts, r.sg ++ [x]⟩ := by
  have hx := h.xb
  have hz := h.zb
  have wx := h.wx
  have hs := hl.size
  have hs2 := g4.size
  have K : ∀ b, b < W.heap.size → Off b q.S → W5.heap[b]? = W.heap[b]? := fun b k hn => (g4.block b (by omega) fun e => by
    cases hq : q.S with
    | none => rw [hq] at e; simp [Value.ownBlock] at e
    | some a0 =>
      rw [hq] at e
      simp [Value.ownBlock] at e
      exact hn a0 hq e.symm).trans (hl.block b k)
  have SO : ∀ b, b < base → Off b q.S := fun b hb a ea => by have := h.own.s.own a ea; omega
  have TO : ∀ a, q.T = some a → Off a.block q.S := fun a ea a0 e0 e => h.own.ap a0 e0 a ea e.symm
  have TL : ∀ a, q.T = some a → a.block < W.heap.size := fun a ea => by
    have h1 := h.own.t
    rw [ea] at h1
    exact h1.lt.2
  have ZS : (W5.setCell ⟨X, 3, none⟩ (.slice A4 l' cap4)).heap.size = W5.heap.size := by simp [World.setCell]
  have KX : ∀ b, b ≠ X → (W5.setCell ⟨X, 3, none⟩ (.slice A4 l' cap4)).heap[b]? = W5.heap[b]? := fun b hb => Below.heap_setCell _ _ _ _ hb
  refine ⟨?_, ?_, ⟨?_, h.own.dc, ?_, h.own.ti, ?_, ?_⟩, ?_, h.wx, h.wz, h.xb, h.zb, h.xz⟩
  · exact heap_setCell_same _ _ 3 _ _ _ ((K X (lt_of_block h.box) (SO _ hx)).trans h.box)
  · exact (KX _ (Ne.symm h.xz)).trans ((K Z (lt_of_block h.zero) (SO _ hz)).trans h.zero)
  · have hd := h.own.d.imp (O' := fun b => (base ≤ b ∧ Off b q.T ∧ Off b q.S) ∧ b < W.heap.size) fun b k1 k2 => ⟨k2, k1⟩
    have hd2 := hd.keep (w' := W5) (by omega) fun b k _ => K b k.2 k.1.2.2
    refine (hd2.keep (w' := W5.setCell ⟨X, 3, none⟩ (.slice A4 l' cap4)) (Nat.le_of_eq ZS.symm) fun b k _ => KX b (by have := k.1.1; omega)).imp fun b _ k => ⟨k.1.1, k.1.2.1, fun a ea e => ?_⟩
    rcases q4 a ea with ⟨a0, e0, e1⟩ | e1
    · exact k.1.2.2 a0 e0 (e1.symm.trans e)
    · have := k.2
      omega
  · refine h.own.t.keep fun a ea => (KX _ ?_).trans (K _ (TL a ea) (TO a ea))
    have := h.own.t.own a ea
    omega
  · refine o4.keep fun a ea => KX _ ?_
    have := o4.own a ea
    omega
  · intro a ea a1 e1 e
    rcases q4 a ea with ⟨a0, e0, e2⟩ | e2
    · exact h.own.ap a0 e0 a1 e1 (e.trans e2)
    · have := TL a1 e1
      omega
  · have hb5 : Below w.heap.size w W5 := ⟨g4.os.trans (hl.os.trans h.below.os), g4.tape.trans (hl.tape.trans h.below.tape), g4.output.trans (hl.output.trans h.below.output), by have := h.below.size; omega, fun k hk => (K k (by have := h.below.size; omega) (SO k (by omega))).trans (h.below.block k hk)⟩
    exact hb5.setCell (p := ⟨X, 3, none⟩) wx _
theorem Cp.sigBox {w W Wl W5 : World} {X Z base n m l : Nat} {st : Int} {q : At3} {r : Rn.R} (h : Cp w W X Z base q n st m l r) (hl : Below W.heap.size W Wl) {l0 c0 : Nat} (g4 : Wl.grownBy W5 (Value.slice q.S l0 c0).ownBlock) : boxR W5 X q n st m l :=
  (g4.block X (by have := lt_of_block h.box; have := hl.size; omega) fun e => by
    cases hq : q.S with
    | none => rw [hq] at e; simp [Value.ownBlock] at e
    | some a0 =>
      rw [hq] at e
      simp [Value.ownBlock] at e
      have h1 := h.own.s.own a0 hq
      have h2 := h.xb
      omega).trans ((hl.block _ (lt_of_block h.box)).trans h.box)
theorem Cq.new3 (w : World) (p : At3) (n m l : Nat) (st : Int) (o : Obj) :
    Cq w (((w.alloc (.cells #[.slice p.A n p.ca, .int .i64 st, .slice p.T m p.ct, .slice p.S l p.cs] 41)).alloc o).alloc (.cells #[.slice none 0 0, .int .i64 0, .slice none 0 0, .slice none 0 0] 41)) w.heap.size (w.heap.size + 1 + 1) (w.heap.size + 1 + 1 + 1) p n st m l := by
  refine ⟨?_, ?_, ((Below.refl _ _).alloc (Nat.le_refl _) _ |>.alloc (by simp) _).alloc (by simp; omega) _, Nat.le_refl _, by omega, by omega, by omega, by omega, by simp⟩
  · refine (Below.heap_alloc _ _ _ (by simp; omega)).trans ?_
    exact box0' _ _ _
  · have := heap_alloc_new ((w.alloc (.cells #[.slice p.A n p.ca, .int .i64 st, .slice p.T m p.ct, .slice p.S l p.cs] 41)).alloc o) (.cells #[.slice none 0 0, .int .i64 0, .slice none 0 0, .slice none 0 0] 41)
    rw [World.size_alloc, World.size_alloc] at this
    exact this
set_option maxHeartbeats 4000000 in
theorem sig_p (p : At3) (r : Rn.R) (hI : Rn.Inv r) (w : World) (O : Nat → Prop) (h : RunO w O p r) (s : ByteArray) (_ : s.size ≤ 140737488355328) : Calls Tryz.prog 85 #[rv p r, .string s] w (RunG w (Rn.sigV r s.data.toList)) := by
  obtain ⟨x, hx⟩ : ∃ x : Tx.T, s = str x := ⟨s.data.toList, (str_list s).symm⟩
  subst hx
  rw [str_data]
  have V : Hid (Rn.sigV r x = if Rn.sigE r x = 0 then (Rn.sigS r x, 0) else (Rn.r0, Rn.sigE r x)) := Lib.hid rfl
  have E : Hid ((r.st ≠ 0 → Rn.sigE r x = 9) ∧ (r.st = 0 → x ∈ r.sg → Rn.sigE r x = 5) ∧ (r.st = 0 → ¬ x ∈ r.sg → (x = [] ∨ ¬ (∃ t ∈ r.d, t.on = x)) → Rn.sigE r x = 1) ∧ (r.st = 0 → ¬ x ∈ r.sg → ¬ (x = [] ∨ ¬ (∃ t ∈ r.d, t.on = x)) → Rn.sigE r x = 0)) := Lib.hid (by
    unfold Rn.sigE
    exact ⟨fun h => by rw [if_pos h], fun h k => by rw [if_neg (fun e => e h), if_pos k], fun h k m => by rw [if_neg (fun e => e h), if_neg k, if_pos m], fun h k m => by rw [if_neg (fun e => e h), if_neg k, if_neg m]⟩)
  have SS : Hid (Rn.sigS r x = Rn.upd ⟨r.d, r.st, r.ts, r.sg ++ [x]⟩) := Lib.hid rfl
  have CN : Hid (∀ W n, Below w.heap.size w W → n = r.sg.length → Calls Tryz.prog 109 #[.slice p.S n p.cs, .string (str x)] W (BoolG W (decide (x ∈ r.sg)))) := Lib.hid fun W n hb hn => contains_p p.S r.sg p.cs (Bd.of hI.toPre).s (Bd.of hI.toPre).z x n hn W O (h.on hb).s
  have CF : Hid (∀ W n g, Below w.heap.size w W → n = r.d.length → W.cell? ⟨g, 0, none⟩ = some (.string (str x)) → Calls Tryz.prog 93 #[.slice p.A n p.ca, .func (.func 110) #[] #[.pointer (some ⟨g, 0, none⟩)]] W (BoolG W (r.d.any fun t => decide (t.on = x)))) :=
    Lib.hid fun W n g hb hn hg => containsFuncC_any g (str x) _ (on_test g x) p.A r.d p.ca n hn hI.good.fair W ((h.on hb).d.defIn) hg
  have AY : Hid ((r.d.any fun t => decide (t.on = x)) = true ↔ ∃ t ∈ r.d, t.on = x) := Lib.hid (by simp)
  have S16 : Hid (r.sg.length ≤ 16) := Lib.hid (Nat.le_trans (nodup_len r.sg (r.d.map (·.on)) hI.nodup fun y hy => by
    obtain ⟨_, t, ht, e⟩ := hI.sigs y hy
    exact List.mem_map.2 ⟨t, ht, e⟩) (by rw [List.length_map]; exact hI.good.n16))
  have XL : Hid (∀ t ∈ r.d, t.on = x → x.length ≤ 1100) := Lib.hid fun t ht e => by rw [← e]; exact (hI.good.fair.2 t ht).2.2
  generalize (r.d.any fun t => decide (t.on = x)) = yes at *
  generalize Rn.sigV r x = v at *
  generalize Rn.sigE r x = ee at *
  generalize Rn.sigS r x = r2 at *
  have CP : Hid (∀ W n l, Below w.heap.size w W → n = r.d.length → l = r.sg.length → Calls Tryz.prog 78 #[.agg #[.slice p.A n p.ca, .int .i64 r.st, .slice p.T n p.ct, .slice p.S l p.cs]] W (CopG W n r.st n l r)) :=
    Lib.hid fun W n l hb hn hl => copied_q p r (Bd.of hI.toPre) w W O h hb n r.st n l hn rfl (hn.trans hI.len.symm) hl
  have BD := Lib.hid (Bd.of hI.toPre)
  have AI := Lib.hid (AfterIn.of hI.toPre)
  obtain ⟨n, hn⟩ : ∃ n, n = r.d.length := ⟨_, rfl⟩
  obtain ⟨l, hl⟩ : ∃ l, l = r.sg.length := ⟨_, rfl⟩
  have HM : Hid (r.ts.length = n) := Lib.hid (hI.len.trans hn.symm)
  have HN := Lib.hid (⟨hn, hl⟩ : n = r.d.length ∧ l = r.sg.length)
  have n9 : n ≤ 1100 := by rw [hn]; exact BD.out.d
  unfold rv
  rw [hI.len, ← hn, ← hl]
  have P0 : Hid (0 < n) := Lib.hid (by have := hI.good.pos; rw [hn]; exact this)
  clear hn hl hI h
  obtain ⟨W0, hW0⟩ : ∃ W0, W0 = ((w.alloc (.cells #[.slice p.A n p.ca, .int .i64 r.st, .slice p.T n p.ct, .slice p.S l p.cs] 41)).alloc (.cells #[.string (str x)] 9)).alloc (.cells #[.slice none 0 0, .int .i64 0, .slice none 0 0, .slice none 0 0] 41) := ⟨_, rfl⟩
  have Q0 : Hid (Cq w W0 w.heap.size (w.heap.size + 1 + 1) (w.heap.size + 1 + 1 + 1) p n r.st n l) := Lib.hid (by rw [hW0]; exact Cq.new3 w p n n l r.st _)
  have B0 : Hid (Below w.heap.size w W0) := Lib.hid Q0.out.below
  have X0 : Hid (W0.heap[w.heap.size + 1]? = some (.cells #[.string (str x)] 9 (0, 0))) := Lib.hid (by rw [hW0]; exact (Below.heap_alloc _ _ _ (by simp)).trans (box1 _ _ _))
  go_enter Tryz.func85, Tryz.ntmps85
  obtain ⟨⟨x0, x1, x2, x3⟩, -⟩ := obj4 Q0.out.box
  have n0 : W0.cell? ⟨w.heap.size + 1, 0, none⟩ = some (.string (str x)) := by simp [World.cell?, X0.out]
  go_upto_region 1 with (fail)
  rw [← hW0]
  clear hW0
  by_cases hs : r.st = 0
  · rw [hs] at Q0 x1 CP SS
    have E2 := Lib.hid (E.out.2.1 hs)
    have E3 := Lib.hid (E.out.2.2.1 hs)
    have E4 := Lib.hid (E.out.2.2.2 hs)
    clear E
    go_wp2_with fail
    (with_reducible refine (CN.out W0 l B0.out HN.out.2).mono ?_); rintro e W1 ⟨rfl, b1⟩
    have Q1 := Lib.hid (Q0.out.on b1.out)
    have X1 : Hid (W1.heap[w.heap.size + 1]? = some (.cells #[.string (str x)] 9 (0, 0))) := Lib.hid ((b1.out.block _ (lt_of_block X0.out)).trans X0.out)
    clear x0 x1 x2 x3 n0
    obtain ⟨⟨x0, x1, x2, x3⟩, -⟩ := obj4 Q1.out.box
    have n0 : W1.cell? ⟨w.heap.size + 1, 0, none⟩ = some (.string (str x)) := by simp [World.cell?, X1.out]
    by_cases hm : x ∈ r.sg
    · have R : Hid (v = (Rn.r0, 5)) := Lib.hid (by rw [V.out, E2.out hm, if_neg (by decide)])
      rw [decide_eq_true hm]
      clear E2 E3 E4 V hm
      obtain ⟨⟨z0, z1, z2, z3⟩, g0, g1, g2, g3⟩ := obj4 Q1.out.zero
      go_wp2
      rw [S4.lit]
      obtain ⟨⟨d0, d1, d2, d3⟩, -⟩ := obj4 (S4.at_ Q1.out.zero (.slice none 0 0) (.int .i64 0) (.slice none 0 0) (.slice none 0 0))
      refine bodyPost_ret (v := .tuple #[.agg #[.slice none 0 0, .int .i64 0, .slice none 0 0, .slice none 0 0], .int .i64 5]) (by simp [results, Tryz.results85, go_sem, d0, d1, d2, d3]) rfl ?_
      rw [R.out]
      exact err_ans 5 Q1.out.below Q1.out.wz
    · rw [decide_eq_false hm]
      have E3 := Lib.hid (E3.out hm)
      have E4 := Lib.hid (E4.out hm)
      clear E2 hm
      by_cases he : x = []
      · have R : Hid (v = (Rn.r0, 1)) := Lib.hid (by rw [V.out, E3.out (.inl he), if_neg (by decide)])
        have hb : str x = ⟨#[]⟩ := by rw [he]; rfl
        rw [hb] at n0
        clear E3 E4 V he CN CF
        obtain ⟨⟨z0, z1, z2, z3⟩, g0, g1, g2, g3⟩ := obj4 Q1.out.zero
        go_wp2
        rw [S4.lit]
        obtain ⟨⟨d0, d1, d2, d3⟩, -⟩ := obj4 (S4.at_ Q1.out.zero (.slice none 0 0) (.int .i64 0) (.slice none 0 0) (.slice none 0 0))
        refine bodyPost_ret (v := .tuple #[.agg #[.slice none 0 0, .int .i64 0, .slice none 0 0, .slice none 0 0], .int .i64 1]) (by simp [results, Tryz.results85, go_sem, d0, d1, d2, d3]) rfl ?_
        rw [R.out]
        exact err_ans 1 Q1.out.below Q1.out.wz
      · have hb := str_ne he
        obtain ⟨hb0, hb1⟩ := hb
        cases hy : yes with
        | false =>
          have R : Hid (v = (Rn.r0, 1)) := Lib.hid (by rw [V.out, E3.out (.inr fun h => by have := AY.out.2 h; rw [hy] at this; cases this), if_neg (by decide)])
          rw [hy] at CF
          clear E3 E4 V CN
          go_wp2_with fail
          (with_reducible refine (CF.out W1 n (w.heap.size + 1) Q1.out.below HN.out.1 n0).mono ?_); rintro e W2 ⟨rfl, b2⟩
          have Q2 := Lib.hid (Q1.out.on b2.out)
          clear x0 x1 x2 x3 n0
          obtain ⟨⟨z0, z1, z2, z3⟩, g0, g1, g2, g3⟩ := obj4 Q2.out.zero
          go_wp2
          rw [S4.lit]
          obtain ⟨⟨d0, d1, d2, d3⟩, -⟩ := obj4 (S4.at_ Q2.out.zero (.slice none 0 0) (.int .i64 0) (.slice none 0 0) (.slice none 0 0))
          refine bodyPost_ret (v := .tuple #[.agg #[.slice none 0 0, .int .i64 0, .slice none 0 0, .slice none 0 0], .int .i64 1]) (by simp [results, Tryz.results85, go_sem, d0, d1, d2, d3]) rfl ?_
          rw [R.out]
          exact err_ans 1 Q2.out.below Q2.out.wz
        | true =>
          have R : Hid (v = (r2, 0)) := Lib.hid (by rw [V.out, E4.out (fun h => by rcases h with h | h; exact he h; exact h (AY.out.1 hy)), if_pos rfl])
          rw [hy] at CF
          clear E3 E4 V CN
          go_wp2_with fail
          (with_reducible refine (CF.out W1 n (w.heap.size + 1) Q1.out.below HN.out.1 n0).mono ?_); rintro e W2a ⟨rfl, b2a⟩
          have Q2 := Lib.hid (Q1.out.on b2a.out)
          have X2 : Hid (W2a.heap[w.heap.size + 1]? = some (.cells #[.string (str x)] 9 (0, 0))) := Lib.hid ((b2a.out.block _ (lt_of_block X1.out)).trans X1.out)
          have hyt := Lib.hid hy
          clear x0 x1 x2 x3 n0 CF hy hb0 hb1
          obtain ⟨⟨x0, x1, x2, x3⟩, -⟩ := obj4 Q2.out.box
          go_wp2_with fail
          (with_reducible refine (CP.out W2a n l Q2.out.below HN.out.1 HN.out.2).mono ?_); rintro e W2 ⟨q, rfl, o2, b2⟩
          have C3 := Lib.hid (Q2.out.copy o2.out b2.out)
          clear x0 x1 x2 x3
          obtain ⟨⟨x0, x1, x2, x3⟩, f0, f1, f2, f3⟩ := obj4 (Q2.out.on b2.out).box
          go_upto_region 8 with (fail)
          rw [S4.lit]
          obtain ⟨W3, hW3⟩ : ∃ W3, W3 = S4 W2 w.heap.size (.slice q.A n q.ca) (.int .i64 0) (.slice q.T n q.ct) (.slice q.S l q.cs) := ⟨_, rfl⟩
          rw [← hW3] at C3 ⊢
          have X3 : Hid (W3.heap[w.heap.size + 1]? = some (.cells #[.string (str x)] 9 (0, 0))) := Lib.hid (by rw [hW3]; exact (S4.else_ _ _ _ _ _ _ (by omega)).trans ((b2.out.block _ (lt_of_block X2.out)).trans X2.out))
          have L3 : Hid (w.heap.size + 1 + 1 + 1 ≤ W3.heap.size) := Lib.hid (by rw [hW3, S4.size_]; exact Nat.le_trans Q2.out.sz b2.out.size)
          clear hW3 x0 x1 x2 x3 f0 f1 f2 f3
          have n3 : W3.cell? ⟨w.heap.size + 1, 0, none⟩ = some (.string (str x)) := by simp [World.cell?, X3.out]
          obtain ⟨⟨x0, x1, x2, x3⟩, f0, f1, f2, f3⟩ := obj4 C3.out.box
          have BL : Hid (Below W3.heap.size W3 (W3.alloc (.cells #[.string (str x)] 9))) := Lib.hid ((Below.refl _ _).alloc (Nat.le_refl _) _)
          have OS : Hid (OwnK (W3.alloc (.cells #[.string (str x)] 9)) (w.heap.size + 1 + 1 + 1) 9 1 q.S q.cs (r.sg.map sgV)) := Lib.hid (C3.out.own.s.kept fun b _ hl => BL.out.block b hl)
          have LE : Hid ((r.sg.map sgV ++ [sgV x]).length = l + 1) := Lib.hid (by rw [List.length_append, List.length_map, ← HN.out.2]; rfl)
          have LN : Hid (l = (r.sg.map sgV).length) := Lib.hid (by rw [List.length_map]; exact HN.out.2)
          have LB : Hid (l ≤ 1100) := Lib.hid (by rw [HN.out.2]; exact BD.out.s)
          have LC : Hid ((W3.alloc (.cells #[.string (str x)] 9)).cell? ⟨W3.heap.size, 0, none⟩ = some (.string (str x))) := Lib.hid (by
            have := heap_alloc_new W3 (.cells #[.string (str x)] 9)
            simp only [World.cell?, this]
            rfl)
          go_wp2_with (at_builtin; refine wp_appK (vs := r.sg.map sgV) (us := [sgV x]) rfl (.tmp 29) (.tmp 31) rfl Tryz.underlying39 infoS rfl (by decide) (by decide) rfl LN.out OS.out (by have := L3.out; simp; omega) rfl rfl (fun v hv => by rw [List.mem_singleton.1 hv]; exact sgV_wide [x] _ (by simp)) (fun j u hu => by
            have e : [sgV x].flatten = [Value.string (str x)] := rfl
            rw [e] at hu
            obtain rfl : j = 0 := by have := (List.getElem?_eq_some_iff.1 hu).1; simp at this; omega
            rw [← hu]
            exact LC.out) (by have := LB.out; rw [← LN.out]; simp; omega) ?_; intro A4 cap4 w4 o4 g4 q4; rw [LE.out]; have O4 := Lib.hid o4; have G4 := Lib.hid g4; have Q4 := Lib.hid q4; clear o4 g4 q4; have y4 := Lib.hid (C3.out.sigBox BL.out G4.out); clear x0 x1 x2 x3 f0 f1 f2 f3; obtain ⟨⟨x0, x1, x2, x3⟩, f0, f1, f2, f3⟩ := obj4 y4.out)
          have C4 := Lib.hid (C3.out.sig (x := x) BL.out (by rw [List.map_append]; exact O4.out) G4.out Q4.out (l + 1))
          obtain ⟨W4, hW4⟩ : ∃ W4, W4 = w4.setCell ⟨w.heap.size, 3, none⟩ (.slice A4 (l + 1) cap4) := ⟨_, rfl⟩
          rw [← hW4] at C4 ⊢
          clear hW4 x0 x1 x2 x3 f0 f1 f2 f3
          rw [hs] at C4
          obtain ⟨r3, hr3⟩ : ∃ r3 : Rn.R, r3 = ⟨r.d, 0, r.ts, r.sg ++ [x]⟩ := ⟨_, rfl⟩
          rw [← hr3] at C4 SS
          have R3 := Lib.hid hr3
          clear hr3
          obtain ⟨q2, hq2⟩ : ∃ q2 : At3, q2 = ⟨q.A, q.ca, q.T, q.ct, A4, cap4⟩ := ⟨_, rfl⟩
          rw [← hq2] at C4
          obtain ⟨t0, ht0, et0⟩ := AY.out.1 hyt.out
          have UP := update_p q2 r3 w.heap.size (w.heap.size + 1 + 1 + 1) n (l + 1) (by omega) (by rw [R3.out]; exact ⟨BD.out.d, BD.out.a, BD.out.t, by show (r.sg ++ [x]).length ≤ _; have := S16.out; simp; omega, fun y hy => by
            rcases List.mem_append.1 hy with hy | hy
            · exact BD.out.z y hy
            · rw [List.mem_singleton.1 hy]; exact XL.out t0 ht0 et0⟩) (by rw [R3.out]; exact AI.out) (by rw [R3.out]; exact HN.out.1) (by rw [R3.out]; exact HM.out.trans HN.out.1) P0.out (by rw [R3.out]; show l + 1 = (r.sg ++ [x]).length; rw [List.length_append, ← HN.out.2]; rfl) W4 (by rw [show r3.st = 0 by rw [R3.out]]; exact C4.out.box) C4.out.own
          rw [← SS.out] at UP
          have UP := Lib.hid UP
          (with_reducible refine UP.out.mono ?_); intro e W5 hu5
          obtain ⟨rfl, C5⟩ := UpdPost.cp C4.out hu5
          clear UP hu5
          have F5 : Hid (r2.d = r.d ∧ r2.ts.length = n ∧ r2.sg.length = l + 1) := Lib.hid (by
            rw [SS.out, R3.out]
            refine ⟨rfl, ?_, ?_⟩
            · show (List.zipWith _ r.d r.ts).length = n
              rw [List.length_zipWith, HM.out, ← HN.out.1]
              omega
            · show (r.sg ++ [x]).length = l + 1
              rw [List.length_append, ← HN.out.2]
              rfl)
          obtain ⟨s5, hs5⟩ : ∃ s5, s5 = r2.st := ⟨_, rfl⟩
          rw [← hs5] at C5
          have S5 := Lib.hid hs5
          have QA : Hid (q2.A = q.A ∧ q2.ca = q.ca ∧ q2.T = q.T ∧ q2.ct = q.ct ∧ q2.S = A4 ∧ q2.cs = cap4) := Lib.hid (by rw [hq2]; exact ⟨rfl, rfl, rfl, rfl, rfl, rfl⟩)
          clear hs5 hq2
          obtain ⟨⟨x0, x1, x2, x3⟩, -⟩ := obj4 C5.out.box
          obtain ⟨⟨z0, z1, z2, z3⟩, g0, g1, g2, g3⟩ := obj4 C5.out.zero
          go_wp2
          rw [S4.lit]
          obtain ⟨⟨d0, d1, d2, d3⟩, -⟩ := obj4 (S4.at_ C5.out.zero (.slice q2.A n q2.ca) (.int .i64 s5) (.slice q2.T n q2.ct) (.slice q2.S (l + 1) q2.cs))
          have A5 := C5.out.ans (.slice q2.A n q2.ca) (.int .i64 s5) (.slice q2.T n q2.ct) (.slice q2.S (l + 1) q2.cs)
          refine bodyPost_ret (v := .tuple #[.agg #[.slice q2.A n q2.ca, .int .i64 s5, .slice q2.T n q2.ct, .slice q2.S (l + 1) q2.cs], .int .i64 0]) (by simp [results, Tryz.results85, go_sem, d0, d1, d2, d3]) rfl ?_
          rw [R.out]
          refine ⟨q2, ?_, Lib.hid A5.1, Lib.hid A5.2⟩
          unfold rv
          dsimp only
          rw [F5.out.1, F5.out.2.1, F5.out.2.2, ← HN.out.1, S5.out]
  · have R : Hid (v = (Rn.r0, 9)) := Lib.hid (by rw [V.out, E.out.1 hs, if_neg (by decide)])
    have hs' : (r.st != 0) = true := by simpa using hs
    clear E V CN CF
    obtain ⟨⟨z0, z1, z2, z3⟩, g0, g1, g2, g3⟩ := obj4 Q0.out.zero
    go_wp2
    rw [S4.lit]
    obtain ⟨⟨d0, d1, d2, d3⟩, -⟩ := obj4 (S4.at_ Q0.out.zero (.slice none 0 0) (.int .i64 0) (.slice none 0 0) (.slice none 0 0))
    refine bodyPost_ret (v := .tuple #[.agg #[.slice none 0 0, .int .i64 0, .slice none 0 0, .slice none 0 0], .int .i64 9]) (by simp [results, Tryz.results85, go_sem, d0, d1, d2, d3]) rfl ?_
    rw [R.out]
    exact err_ans 9 Q0.out.below Q0.out.wz
end Go.Proofs.YtkbekojnmdgdgaaGreatDoor
/- RnCan -/
namespace Go.Proofs.YtkbekojnmdgdgaaGreatDoor
open Go.RowKit
set_option maxRecDepth 20000
theorem cancel_p (p : At3) (r : Rn.R) (hI : Rn.Inv r) (w : World) (O : Nat → Prop) (h : RunO w O p r) : Calls Tryz.prog 86 #[rv p r] w (RunG w (Rn.cancelV r)) := by
  have V : Hid (Rn.cancelV r = if r.st = 0 then (⟨r.d, 3, r.ts, r.sg⟩, 0) else (Rn.r0, 9)) := Lib.hid rfl
  have CP : Hid (∀ W n m l, Below w.heap.size w W → n = r.d.length → m = r.ts.length → l = r.sg.length → Calls Tryz.prog 78 #[.agg #[.slice p.A n p.ca, .int .i64 r.st, .slice p.T m p.ct, .slice p.S l p.cs]] W (CopG W n r.st m l r)) :=
    Lib.hid fun W n m l hb hn hm hl => copied_q p r (Bd.of hI.toPre) w W O h hb n r.st m l hn rfl hm hl
  generalize Rn.cancelV r = v at *
  obtain ⟨n, hn⟩ : ∃ n, n = r.d.length := ⟨_, rfl⟩
  obtain ⟨m, hm⟩ : ∃ m, m = r.ts.length := ⟨_, rfl⟩
  obtain ⟨l, hl⟩ : ∃ l, l = r.sg.length := ⟨_, rfl⟩
  unfold rv
  rw [← hn, ← hm, ← hl]
  have HN := Lib.hid (⟨hn, hm, hl⟩ : n = r.d.length ∧ m = r.ts.length ∧ l = r.sg.length)
  clear hn hm hl hI h
  obtain ⟨W0, hW0⟩ : ∃ W0, W0 = (w.alloc (.cells #[.slice p.A n p.ca, .int .i64 r.st, .slice p.T m p.ct, .slice p.S l p.cs] 41)).alloc (.cells #[.slice none 0 0, .int .i64 0, .slice none 0 0, .slice none 0 0] 41) := ⟨_, rfl⟩
  have B0 : Hid (Below w.heap.size w W0) := Lib.hid (by rw [hW0]; exact box2 _ _ _)
  have Q0 : Hid (Cq w W0 w.heap.size (w.heap.size + 1) (w.heap.size + 1 + 1) p n r.st m l) := Lib.hid (by
    refine ⟨?_, ?_, B0.out, Nat.le_refl _, by omega, by omega, by omega, by omega, by rw [hW0]; simp⟩
    · rw [hW0]; exact box0' _ _ _
    · unfold zeroR; rw [hW0]; exact box1 _ _ _)
  generalize r.st = st at *
  go_enter Tryz.func86, Tryz.ntmps86
  obtain ⟨⟨x0, x1, x2, x3⟩, -⟩ := obj4 Q0.out.box
  by_cases h0 : st = 0
  · have R : Hid (v = (⟨r.d, 3, r.ts, r.sg⟩, 0)) := Lib.hid (by rw [V.out, if_pos h0])
    subst h0
    clear V
    go_upto_region 1 with (fail)
    rw [← hW0]
    clear hW0
    go_wp2_with fail
    (with_reducible refine (CP.out W0 n m l B0.out HN.out.1 HN.out.2.1 HN.out.2.2).mono ?_); rintro e W2 ⟨q, rfl, o2, b2⟩
    have C3 := Lib.hid (Q0.out.copy o2.out b2.out)
    clear x0 x1 x2 x3
    obtain ⟨⟨x0, x1, x2, x3⟩, f0, f1, f2, f3⟩ := obj4 (Q0.out.on b2.out).box
    go_upto_region 4 with (fail)
    rw [S4.lit]
    obtain ⟨W3, hW3⟩ : ∃ W3, W3 = S4 W2 w.heap.size (.slice q.A n q.ca) (.int .i64 0) (.slice q.T m q.ct) (.slice q.S l q.cs) := ⟨_, rfl⟩
    rw [← hW3] at C3 ⊢
    clear hW3 x0 x1 x2 x3 f0 f1 f2 f3
    have C4 := Lib.hid (C3.out.st 3 3)
    obtain ⟨W4, hW4⟩ : ∃ W4, W4 = W3.setCell ⟨w.heap.size, 1, none⟩ (.int .i64 3) := ⟨_, rfl⟩
    rw [← hW4] at C4
    obtain ⟨⟨x0, x1, x2, x3⟩, f0, f1, f2, f3⟩ := obj4 C3.out.box
    go_upto_region 5 with (fail)
    rw [← hW4]
    clear hW4 x0 x1 x2 x3 f0 f1 f2 f3
    obtain ⟨⟨x0, x1, x2, x3⟩, -⟩ := obj4 C4.out.box
    obtain ⟨⟨z0, z1, z2, z3⟩, g0, g1, g2, g3⟩ := obj4 C4.out.zero
    go_wp2
    rw [S4.lit]
    obtain ⟨⟨d0, d1, d2, d3⟩, -⟩ := obj4 (S4.at_ C4.out.zero (.slice q.A n q.ca) (.int .i64 3) (.slice q.T m q.ct) (.slice q.S l q.cs))
    have A5 := C4.out.ans (.slice q.A n q.ca) (.int .i64 3) (.slice q.T m q.ct) (.slice q.S l q.cs)
    refine bodyPost_ret (v := .tuple #[.agg #[.slice q.A n q.ca, .int .i64 3, .slice q.T m q.ct, .slice q.S l q.cs], .int .i64 0]) (by simp [results, Tryz.results86, go_sem, d0, d1, d2, d3]) rfl ?_
    rw [R.out, HN.out.1, HN.out.2.1, HN.out.2.2] at *
    exact ⟨q, rfl, Lib.hid A5.1, Lib.hid A5.2⟩
  · have R : Hid (v = (Rn.r0, 9)) := Lib.hid (by rw [V.out, if_neg h0])
    have h0' : (st != 0) = true := by simpa using h0
    clear V
    go_upto_region 1 with (fail)
    rw [← hW0]
    clear hW0
    obtain ⟨⟨z0, z1, z2, z3⟩, g0, g1, g2, g3⟩ := obj4 Q0.out.zero
    go_wp2
    rw [S4.lit]
    obtain ⟨⟨d0, d1, d2, d3⟩, -⟩ := obj4 (S4.at_ Q0.out.zero (.slice none 0 0) (.int .i64 0) (.slice none 0 0) (.slice none 0 0))
    refine bodyPost_ret (v := .tuple #[.agg #[.slice none 0 0, .int .i64 0, .slice none 0 0, .slice none 0 0], .int .i64 9]) (by simp [results, Tryz.results86, go_sem, d0, d1, d2, d3]) rfl ?_
    rw [R.out]
    exact err_ans 9 B0.out (by omega)
end Go.Proofs.YtkbekojnmdgdgaaGreatDoor
/- RnNext -/
namespace Go.Proofs.YtkbekojnmdgdgaaGreatDoor
open Go.RowKit
set_option maxRecDepth 20000
def Rn.lstep (o : Option Int) (k : Rn.Tk) : Option Int := if Rn.timed k = true then (match o with | none => some k.un | some v => some (if k.un < v then k.un else v)) else o
def Rn.mrg : Option Int → Option Int → Option Int
  | none, b => b
  | some a, none => some a
  | some a, some b => some (min a b)
theorem Rn.lstep_all : ∀ (l : List Rn.Tk) (o : Option Int), l.foldl Rn.lstep o = Rn.mrg o (Rn.least l)
  | [], o => by cases o <;> rfl
  | k :: l, o => by
    rw [List.foldl_cons, Rn.lstep_all l]
    unfold Rn.lstep
    show _ = Rn.mrg o (match Rn.least l with | none => if Rn.timed k = true then some k.un else none | some v => if Rn.timed k = true then some (min k.un v) else some v)
    cases Rn.least l with
    | none =>
      cases Rn.timed k with
      | false => rfl
      | true =>
        cases o with
        | none => rfl
        | some v =>
          show some (if k.un < v then k.un else v) = some (min v k.un)
          congr 1
          split <;> omega
    | some x =>
      cases Rn.timed k with
      | false => rfl
      | true =>
        cases o with
        | none => rfl
        | some v =>
          show some (min (if k.un < v then k.un else v) x) = some (min v (min k.un x))
          congr 1
          split <;> omega
theorem Rn.least_fold (l : List Rn.Tk) : Rn.least l = l.foldl Rn.lstep none := (Rn.lstep_all l none).symm
set_option maxHeartbeats 2000000 in
theorem next_p (p : At3) (r : Rn.R) (hI : Rn.Inv r) (w : World) (O : Nat → Prop) (h : RunO w O p r) :
    Calls Tryz.prog 33 #[rv p r] w fun e w' => e = .returned (.tuple #[.int .i64 ((Rn.nextV r).getD 0), .bool (Rn.nextV r).isSome]) ∧ Hid (Below w.heap.size w w') := by
  have V : Hid (Rn.nextV r = if r.st = 0 then Rn.least r.ts else none) := Lib.hid rfl
  generalize Rn.nextV r = v at *
  have NP : 0 < r.ts.length := by rw [hI.len]; exact hI.good.pos
  obtain ⟨b, off, hA, -, hb, hc⟩ := h.t.2 NP
  have HC := Lib.hid hc
  have TI := Lib.hid h.t.1
  have n9 : r.ts.length ≤ 1100 := (Bd.of hI.toPre).t
  unfold rv
  rw [hA]
  obtain ⟨n, hn⟩ : ∃ n, n = r.ts.length := ⟨_, rfl⟩
  rw [← hn] at n9 ⊢
  have HN := Lib.hid hn
  generalize r.d.length = m at *
  generalize r.sg.length = l at *
  obtain ⟨W0, hW0⟩ : ∃ W0, W0 = w.alloc (.cells #[.slice p.A m p.ca, .int .i64 r.st, .slice (some ⟨b, off, none⟩) n p.ct, .slice p.S l p.cs] 41) := ⟨_, rfl⟩
  have B0 : Hid (Below w.heap.size w W0) := Lib.hid (by rw [hW0]; exact (Below.refl _ _).alloc (Nat.le_refl _) _)
  have X0 : W0.heap[w.heap.size]? = some (.cells #[.slice p.A m p.ca, .int .i64 r.st, .slice (some ⟨b, off, none⟩) n p.ct, .slice p.S l p.cs] 41 (0, 0)) := by rw [hW0]; exact heap_alloc_new _ _
  obtain ⟨⟨x0, x1, x2, x3⟩, -⟩ := obj4 X0
  have HB := Lib.hid hb
  generalize r.st = st at *
  clear hI h hA hc hb NP X0 hn
  go_enter Tryz.func33, Tryz.ntmps33
  go_upto_region 1 with (fail)
  rw [← hW0]
  clear hW0
  by_cases h0 : st = 0
  · have R : Hid (v = r.ts.foldl Rn.lstep none) := Lib.hid (by rw [V.out, if_pos h0, Rn.least_fold])
    subst h0
    clear V
    go_wp2_with fail
    go_loopw [4, 5, 14] (fun lv bv iv wr => ∃ (k : Nat) (z : Int) (o : Bool), k ≤ n ∧ lv = .int .i64 z ∧ bv = .bool o ∧ iv = .int .i64 k ∧ Hid (z = ((r.ts.take k).foldl Rn.lstep none).getD 0 ∧ o = ((r.ts.take k).foldl Rn.lstep none).isSome) ∧ Hid (Below w.heap.size w wr)) (fun _ _ iv _ => n - (intOf iv).toNat)
    case atStart => exact ⟨0, 0, false, Nat.zero_le _, rfl, rfl, rfl, Lib.hid ⟨rfl, rfl⟩, B0⟩
    case round =>
      obtain ⟨k, z, o, hk, rfl, rfl, rfl, HZ, HW⟩ := hrel
      by_cases hlt : k < n
      · have hlt' : (k : Int) < (n : Int) := by omega
        have HD : Hid (k < r.ts.length) := Lib.hid (by rw [← HN.out]; exact hlt)
        obtain ⟨kk, hkk⟩ : ∃ kk, kk = r.ts.getD k Rn.t0 := ⟨_, rfl⟩
        have KK := Lib.hid hkk
        have c0 : w.cell? ⟨b, off + k * 4, none⟩ = some (.int .i64 kk.ph) := by rw [hkk]; exact (HC.out k HD.out).1
        have c1 : w.cell? ⟨b, off + k * 4 + 1, none⟩ = some (.int .i64 kk.tr) := by rw [hkk]; exact (HC.out k HD.out).2.1
        have c2 : w.cell? ⟨b, off + k * 4 + 2, none⟩ = some (.int .i64 kk.un) := by rw [hkk]; exact (HC.out k HD.out).2.2.1
        have c3 : w.cell? ⟨b, off + k * 4 + 3, none⟩ = some (.string (str kk.da)) := by rw [hkk]; exact (HC.out k HD.out).2.2.2
        have KI : Hid (tkIn kk) := Lib.hid (by rw [hkk, getD_at HD.out]; exact TI.out _ (List.getElem_mem _))
        clear hkk
        have e0 := (HW.out.cell (block_lt c0)).trans c0
        have e1 := (HW.out.cell (block_lt c1)).trans c1
        have e2 := (HW.out.cell (block_lt c2)).trans c2
        have e3 := (HW.out.cell (block_lt c3)).trans c3
        clear c0 c1 c2 c3
        have ST : Hid ((r.ts.take (k + 1)).foldl Rn.lstep none = Rn.lstep ((r.ts.take k).foldl Rn.lstep none) kk) := Lib.hid (by
          rw [List.take_add_one, List.getElem?_eq_getElem HD.out, List.foldl_append, KK.out, getD_at HD.out]
          rfl)
        obtain ⟨u, hu⟩ : ∃ u, u = (r.ts.take k).foldl Rn.lstep none := ⟨_, rfl⟩
        rw [← hu] at ST HZ
        clear hu
        obtain ⟨W1, hW1⟩ : ∃ W1, W1 = wr.alloc (.cells #[.int .i64 kk.ph, .int .i64 kk.tr, .int .i64 kk.un, .string (str kk.da)] 47) := ⟨_, rfl⟩
        have T1 : W1.heap[wr.heap.size]? = some (.cells #[.int .i64 kk.ph, .int .i64 kk.tr, .int .i64 kk.un, .string (str kk.da)] 47 (0, 0)) := by rw [hW1]; exact heap_alloc_new _ _
        have B1 : Hid (Below w.heap.size w W1) := Lib.hid (by rw [hW1]; exact HW.out.alloc HW.out.size _)
        obtain ⟨⟨y0, y1, y2, y3⟩, -⟩ := obj4 T1
        clear T1
        go_upto_region 7 with (fail)
        rw [← hW1]
        clear hW1 e0 e1 e2 e3
        cases u with
        | none =>
          obtain ⟨rfl, rfl⟩ : z = 0 ∧ o = false := HZ.out
          by_cases h2 : kk.ph = 2
          · have TT : Hid (Rn.timed kk = true) := Lib.hid (decide_eq_true (.inl h2))
            rw [h2] at y0
            clear h2
            go_wp2
            go_roundw
            case rel => exact ⟨k + 1, kk.un, true, by omega, rfl, rfl, by go_num, Lib.hid (by rw [ST.out]; unfold Rn.lstep; rw [if_pos TT.out]; exact ⟨rfl, rfl⟩), B1⟩
            case measure => simp [intOf]; omega
          · have h2' : (kk.ph != 2) = true := by simpa using h2
            by_cases h5 : kk.ph = 5
            · have TT : Hid (Rn.timed kk = true) := Lib.hid (decide_eq_true (.inr h5))
              rw [h5] at y0
              clear h2 h2' h5
              go_wp2
              go_roundw
              case rel => exact ⟨k + 1, kk.un, true, by omega, rfl, rfl, by go_num, Lib.hid (by rw [ST.out]; unfold Rn.lstep; rw [if_pos TT.out]; exact ⟨rfl, rfl⟩), B1⟩
              case measure => simp [intOf]; omega
            · have TT : Hid (Rn.timed kk = false) := Lib.hid (decide_eq_false fun h => by rcases h with h | h; exact h2 h; exact h5 h)
              have h5' : (kk.ph != 5) = true := by simpa using h5
              go_wp2
              go_roundw
              case rel => exact ⟨k + 1, 0, false, by omega, rfl, rfl, by go_num, Lib.hid (by rw [ST.out]; unfold Rn.lstep; rw [if_neg (by rw [TT.out]; decide)]; exact ⟨rfl, rfl⟩), B1⟩
              case measure => simp [intOf]; omega
        | some z2 =>
          obtain ⟨rfl, rfl⟩ : z = z2 ∧ o = true := HZ.out
          by_cases h2 : kk.ph = 2
          · have TT : Hid (Rn.timed kk = true) := Lib.hid (decide_eq_true (.inl h2))
            rw [h2] at y0
            clear h2
            by_cases hl : kk.un < z
            · skip
              go_wp2
              go_roundw
              case rel => exact ⟨k + 1, kk.un, true, by omega, rfl, rfl, by go_num, Lib.hid (by rw [ST.out]; unfold Rn.lstep; rw [if_pos TT.out]; simp only [if_pos hl]; exact ⟨rfl, rfl⟩), B1⟩
              case measure => simp [intOf]; omega
            · have hl' : decide (kk.un < z) = false := decide_eq_false hl
              go_wp2
              go_roundw
              case rel => exact ⟨k + 1, z, true, by omega, rfl, rfl, by go_num, Lib.hid (by rw [ST.out]; unfold Rn.lstep; rw [if_pos TT.out]; simp only [if_neg hl]; exact ⟨rfl, rfl⟩), B1⟩
              case measure => simp [intOf]; omega
          · have h2' : (kk.ph != 2) = true := by simpa using h2
            by_cases h5 : kk.ph = 5
            · have TT : Hid (Rn.timed kk = true) := Lib.hid (decide_eq_true (.inr h5))
              rw [h5] at y0
              clear h2 h2' h5
              by_cases hl : kk.un < z
              · skip
                go_wp2
                go_roundw
                case rel => exact ⟨k + 1, kk.un, true, by omega, rfl, rfl, by go_num, Lib.hid (by rw [ST.out]; unfold Rn.lstep; rw [if_pos TT.out]; simp only [if_pos hl]; exact ⟨rfl, rfl⟩), B1⟩
                case measure => simp [intOf]; omega
              · have hl' : decide (kk.un < z) = false := decide_eq_false hl
                go_wp2
                go_roundw
                case rel => exact ⟨k + 1, z, true, by omega, rfl, rfl, by go_num, Lib.hid (by rw [ST.out]; unfold Rn.lstep; rw [if_pos TT.out]; simp only [if_neg hl]; exact ⟨rfl, rfl⟩), B1⟩
                case measure => simp [intOf]; omega
            · have TT : Hid (Rn.timed kk = false) := Lib.hid (decide_eq_false fun h => by rcases h with h | h; exact h2 h; exact h5 h)
              have h5' : (kk.ph != 5) = true := by simpa using h5
              go_wp2
              go_roundw
              case rel => exact ⟨k + 1, z, true, by omega, rfl, rfl, by go_num, Lib.hid (by rw [ST.out]; unfold Rn.lstep; rw [if_neg (by rw [TT.out]; decide)]; exact ⟨rfl, rfl⟩), B1⟩
              case measure => simp [intOf]; omega
      · obtain rfl : k = n := by omega
        have hge : ¬ (k : Int) < (k : Int) := by omega
        have RV : Hid (z = v.getD 0 ∧ o = v.isSome) := Lib.hid (by
          have h1 := HZ.out
          rw [HN.out, List.take_length, ← R.out] at h1
          exact h1)
        go_wp2
        refine bodyPost_ret (v := .tuple #[.int .i64 z, .bool o]) (by simp [results, Tryz.results33, go_sem]) rfl ⟨by rw [← RV.out.1, ← RV.out.2], HW⟩
  · have R : Hid (v = none) := Lib.hid (by rw [V.out, if_neg h0])
    have h0' : (st != 0) = true := by simpa using h0
    clear V
    go_wp2
    refine bodyPost_ret (v := .tuple #[.int .i64 0, .bool false]) (by simp [results, Tryz.results33, go_sem]) rfl ⟨by rw [R.out]; rfl, B0⟩
end Go.Proofs.YtkbekojnmdgdgaaGreatDoor
