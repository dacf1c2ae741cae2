/-
  Part 27 of the texts behind the law: RnOrdW, RnInO.
-/
import Derived.Test.YtpaolgjgonghlaaDoorRn24
import Derived.Deep.CutBlock
import Derived.Laws.BitsLemmas
import Derived.Deep.CutRange
import Derived.Deep.QuietTactic
import Derived.BigQuiet
import Derived.Deep.RegionHeld3
import Derived.Test.YtpaolgjgonghlaaDoorRn1
import Derived.Test.YtpaolgjgonghlaaDoorRn7
/-
  The law RunOrder, walked: tasks begin behind all that they follow; tries are bounded; what is done stays.
-/
namespace Go.Proofs.YtpaolgjgonghlaaDoor
open Go.RowKit
set_option maxRecDepth 20000
theorem and_low (n : Int) (k : Nat) (hk : k = 6 ∨ k = 4) : bits .and .i64 n ((2 ^ k - 1 : Nat) : Int) = n % ((2 ^ k : Nat) : Int) := by
  have h16 : (BitVec.ofInt 64 ((2 ^ k - 1 : Nat) : Int)).toNat = 2 ^ k - 1 := by rcases hk with rfl | rfl <;> decide
  have key : (BitVec.ofInt 64 n &&& BitVec.ofInt 64 ((2 ^ k - 1 : Nat) : Int)).toNat = (n % ((2 ^ 64 : Nat) : Int)).toNat % 2 ^ k := by
    rw [BitVec.toNat_and, BitVec.toNat_ofInt, h16, Nat.and_two_pow_sub_one_eq_mod]
  show IntKind.i64.wrap ((BitVec.ofInt 64 n &&& BitVec.ofInt 64 ((2 ^ k - 1 : Nat) : Int)).toNat : Nat) = n % ((2 ^ k : Nat) : Int)
  rw [key, IntKind.wrap_i64]
  rcases hk with rfl | rfl <;> omega
theorem and63 (n : Int) : bits .and .i64 n 63 = n % 64 := and_low n 6 (.inl rfl)
theorem and15 (n : Int) : bits .and .i64 n 15 = n % 16 := and_low n 4 (.inr rfl)
set_option maxHeartbeats 16000000 in
theorem order_walk (s : ByteArray) (hs : s.size ≤ 140737488355328) (A : Option Addr) (cap : Nat) (l : List Rn.Ac) (w : World) (hF : FactsD w) (hA : ActsR w w.heap.size A l) : Calls Tryd.prog 4 #[.string s, .slice A l.length cap] w fun e w' => e = .returned (.bool true) ∧ Hid (Below w.heap.size w w') := by
  have AW := Lib.hid (awake_any w hF)
  have HF := Lib.hid hF
  have BG : Hid (∀ W, Below w.heap.size w W → Calls Tryd.prog 9 #[.string s] W (RunG W (Rn.begunV s.data.toList))) := Lib.hid fun W hW => begun_any s hs W (hF.on hW)
  have BV : Hid ((Rn.begunV s.data.toList).2 = 0 → Rn.Inv (Rn.begunV s.data.toList).1) := Lib.hid fun h => by
    unfold Rn.begunV at h ⊢
    split
    · next h1 =>
      rw [if_pos h1] at h
      exact Rn.of_new (d := (Df.parse s.data.toList).1) (r := (Rn.newV (Df.parse s.data.toList).1).1) (by rw [← h])
    · next h1 =>
      rw [if_neg h1] at h
      exact absurd h h1
  have HA := Lib.hid hA
  obtain ⟨L, hL⟩ : ∃ L, L = l.length := ⟨_, rfl⟩
  have LL := Lib.hid hL
  rw [← hL]
  generalize Rn.begunV s.data.toList = q at *
  obtain ⟨r, x⟩ := q
  clear hF hA hL
  go_enter Tryd.func4, Tryd.ntmps4
  go_wp2_with fail
  (with_reducible refine AW.out.mono ?_); rintro e w2 ⟨rfl, hb2⟩
  have B2 := Lib.hid hb2.out
  have BG2 := Lib.hid (BG.out w2 hb2.out)
  clear hb2
  by_cases h400 : 400 < (s.size : Int)
  · skip
    go_wp2
    go_ret
    exact ⟨rfl, B2⟩
  · by_cases h50 : 50 < (L : Int)
    · skip
      go_wp2
      go_ret
      exact ⟨rfl, B2⟩
    · have h50' : L ≤ 50 := by omega
      go_wp2_with fail
      (with_reducible refine BG2.out.mono ?_); rintro e w3 ⟨p, rfl, hr, hb3⟩
      have B3 := Lib.hid (B2.out.trans (hb3.out.mono B2.out.size))
      obtain ⟨st, hst⟩ : ∃ st, st = r.st := ⟨_, rfl⟩
      obtain ⟨m, hm⟩ : ∃ m, m = r.sg.length := ⟨_, rfl⟩
      obtain ⟨n, hn⟩ : ∃ n, n = r.d.length := ⟨_, rfl⟩
      obtain ⟨n2, hn2⟩ : ∃ n2, n2 = r.ts.length := ⟨_, rfl⟩
      have G2 : Hid (w2.heap.size ≤ w3.heap.size) := Lib.hid hb3.out.size
      obtain ⟨r4, x4, b4, z4⟩ := box_ok hr.out n st n2 m
      have B4 := Lib.hid (B3.out.trans (b4.mono B3.out.size))
      have R4 := Lib.hid r4
      have X4 := Lib.hid x4
      have ST := Lib.hid hst
      have SM := Lib.hid hm
      have SN := Lib.hid hn
      have S2 := Lib.hid hn2
      unfold rv
      simp only at *
      rw [← hst, ← hm, ← hn, ← hn2]
      clear r4 x4 b4 z4 hr hb3 hst hm hn hn2
      go_upto_region 6 with (fail)
      generalize w3.alloc (.cells #[.slice p.A n p.ca, .int .i64 st, .slice p.T n2 p.ct, .slice p.S m p.cs] 29) = w4 at *
      generalize hX : w3.heap.size = X at *
      by_cases hx : x = 0
      · subst hx
        have I4 := Lib.hid (BV.out rfl)
        have N2 : n2 = n := by rw [S2.out, SN.out]; exact I4.out.len
        subst N2
        have NP : 1 ≤ n2 ∧ n2 ≤ 16 := by rw [SN.out]; exact ⟨I4.out.good.n1, I4.out.good.n16⟩
        obtain ⟨np1, np2⟩ := NP
        have R5 := Lib.hid (R4.out.imp (O' := fun b => b ≠ X) fun b _ h => by have := h.2; omega)
        have XW : Hid (w.heap.size ≤ X) := Lib.hid (Nat.le_trans B2.out.size G2.out)
        clear R4 BV BG BG2 AW
        go_wp2_with fail
        go_loopw [7, 8] (fun nv iv w' => ∃ (k : Nat) (now : Int) (p : At3) (r : Rn.R) (st : Int) (m : Nat), k ≤ L ∧ iv = .int .i64 k ∧ nv = .int .i64 now ∧ 1 ≤ now ∧ now ≤ 1 + 64 * (k : Int) ∧ Hid (Rn.Inv r) ∧ Hid (r.d.length = n2) ∧ Hid (st = r.st) ∧ Hid (m = r.sg.length) ∧ Hid (RunO w' (fun b => b ≠ X) p r) ∧ w'.heap[X]? = some (.cells #[.slice p.A n2 p.ca, .int .i64 st, .slice p.T n2 p.ct, .slice p.S m p.cs] 29 (0, 0)) ∧ But w4.heap.size X w4 w') (fun _ iv _ => L - (intOf iv).toNat)
        case atStart => exact ⟨0, 1, p, r, st, m, Nat.zero_le _, rfl, rfl, by decide, by decide, I4, Lib.hid SN.out.symm, ST, SM, R5, X4.out, But.refl _ _ _⟩
        case round => as_aux_lemma =>
          obtain ⟨k, now, p, r, st, m, hk, rfl, rfl, n1, n3, IV, DL, ST, SM, RR, hbX, hbut⟩ := hrel
          have BX := Lib.hid hbX
          have BT := Lib.hid hbut
          clear hbut I4 R5 X4
          by_cases hlt : k < L
          · have hlt' : (k : Int) < (L : Int) := by omega
            have BW : Hid (Below w.heap.size w wr) := Lib.hid (B4.out.trans (BT.out.below B4.out.size XW.out))
            obtain ⟨ba, oa, a, hAA, hba, ain, a0, a1, a2, a3, a4⟩ := ActsR.at_ (i := k) (HA.out.below BW.out) (by rw [← LL.out]; exact hlt)
            have AA := Lib.hid hAA
            obtain ⟨⟨c0, c1, c2, c3⟩, -⟩ := obj4 hbX
            have TL : Hid (r.ts.length = n2) := Lib.hid (by rw [IV.out.len, DL.out])
            have MX : Hid (X < wr.heap.size) := Lib.hid (lt_of_block BX.out)
            have b63 : bits .and .i64 a.n 63 = a.n % 64 := and63 a.n
            have hr0 : 0 ≤ a.n % 64 := Int.emod_nonneg _ (by decide)
            have hr1 : a.n % 64 < 64 := Int.emod_lt_of_pos _ (by decide)
            subst hAA
            have BX0 := Lib.hid hbX
            -- the first copy
            obtain ⟨r5, x5, b5, z5⟩ := box_ok (RR.out.here) n2 st n2 m
            have R5 := Lib.hid (r5.imp (O' := fun b => b < wr.heap.size ∧ b ≠ X) fun b _ h => ⟨h.2, h.1.1⟩)
            have Y5 := Lib.hid x5
            have B5 := Lib.hid b5
            have Z5 := Lib.hid z5
            clear hbX r5 x5 b5 z5
            go_upto_region 13 with (fail)
            generalize wr.alloc (.cells #[.slice p.A n2 p.ca, .int .i64 st, .slice p.T n2 p.ct, .slice p.S m p.cs] 29) = w5 at *
            generalize hY : wr.heap.size = Y at *
            have HYW : Hid (w.heap.size ≤ Y) := Lib.hid (by rw [← hY]; exact BW.out.size)
            have BW5 : Hid (Below w.heap.size w w5) := Lib.hid (BW.out.trans (B5.out.mono HYW.out))
            have X5 : Hid (w5.heap[X]? = some (.cells #[.slice p.A n2 p.ca, .int .i64 st, .slice p.T n2 p.ct, .slice p.S m p.cs] 29 (0, 0))) := Lib.hid ((B5.out.block _ MX.out).trans BX0.out)
            have ha3 : w5.cell? ⟨ba, oa + k * 5 + 3, none⟩ = some (.int .i64 a.n) := (B5.out.cell (p := ⟨ba, _, none⟩) (Nat.lt_of_lt_of_le hba.out HYW.out)).trans a3
            have ha0 : Hid (w5.cell? ⟨ba, oa + k * 5, none⟩ = some (.int .i64 a.op)) := Lib.hid ((B5.out.cell (p := ⟨ba, _, none⟩) (Nat.lt_of_lt_of_le hba.out HYW.out)).trans a0)
            have ha1 : Hid (w5.cell? ⟨ba, oa + k * 5 + 1, none⟩ = some (.int .i64 a.task)) := Lib.hid ((B5.out.cell (p := ⟨ba, _, none⟩) (Nat.lt_of_lt_of_le hba.out HYW.out)).trans a1)
            clear c0 c1 c2 c3 a0 a1 a2 a3 a4
            obtain ⟨⟨c0, c1, c2, c3⟩, -⟩ := obj4 X5.out
            -- the second copy
            obtain ⟨r6, x6, b6, z6⟩ := box_ok R5.out n2 st n2 m
            have R6 := Lib.hid (r6.imp (O' := fun b => b < Y ∧ b ≠ X) fun b _ h => h.1)
            have V6 := Lib.hid x6
            have B6 := Lib.hid b6
            clear r6 x6 b6 z6
            go_upto_region 15 with (fail)
            generalize w5.alloc (.cells #[.slice p.A n2 p.ca, .int .i64 st, .slice p.T n2 p.ct, .slice p.S m p.cs] 29) = w6 at *
            generalize hV : w5.heap.size = V at *
            have VY : V = Y + 1 := Z5.out
            have XY : X < Y := MX.out
            have X6 : Hid (w6.heap[X]? = some (.cells #[.slice p.A n2 p.ca, .int .i64 st, .slice p.T n2 p.ct, .slice p.S m p.cs] 29 (0, 0))) := Lib.hid ((B6.out.block _ (by omega)).trans X5.out)
            have Y6 : Hid (w6.heap[Y]? = some (.cells #[.slice p.A n2 p.ca, .int .i64 st, .slice p.T n2 p.ct, .slice p.S m p.cs] 29 (0, 0))) := Lib.hid ((B6.out.block _ (by omega)).trans Y5.out)
            have VW : w.heap.size ≤ V := by have := HYW.out; omega
            have g0 : w6.cell? ⟨ba, oa + k * 5, none⟩ = some (.int .i64 a.op) := (B6.out.cell (p := ⟨ba, _, none⟩) (Nat.lt_of_lt_of_le hba.out VW)).trans ha0.out
            have g1 : w6.cell? ⟨ba, oa + k * 5 + 1, none⟩ = some (.int .i64 a.task) := (B6.out.cell (p := ⟨ba, _, none⟩) (Nat.lt_of_lt_of_le hba.out VW)).trans ha1.out
            have BT6 : Hid (But w4.heap.size X w4 w6) := Lib.hid (BT.out.trans (But.of ((B5.out.trans (B6.out.mono (by omega))).mono (by rw [← hY]; exact BT.out.size))))
            have HV := Lib.hid hV
            have HY := Lib.hid hY
            have HVY := Lib.hid VY
            have HXY := Lib.hid XY
            have HVW := Lib.hid VW
            clear c0 c1 c2 c3 ha3 ha0 ha1 hV hY VY XY VW
            obtain ⟨⟨c0, c1, c2, c3⟩, -⟩ := obj4 X6.out
            generalize hnw : now + a.n % 64 = now' at *
            have N' : 1 ≤ now' ∧ now' ≤ 1 + 64 * ((k : Int) + 1) := by omega
            obtain ⟨n1', n3'⟩ := N'
            clear hnw b63 hr0 hr1 n1 n3
            have b15 : bits .and .i64 a.task 15 = a.task % 16 := and15 a.task
            have q0 : 0 ≤ a.task % 16 := Int.emod_nonneg _ (by decide)
            have q1 : a.task % 16 < 16 := Int.emod_lt_of_pos _ (by decide)
            obtain ⟨t, ht, htn⟩ : ∃ t : Nat, Int.tmod (a.task % 16) (n2 : Int) = (t : Int) ∧ t < n2 := by
              rw [Int.tmod_eq_emod_of_nonneg q0]
              have h1 : 0 ≤ (a.task % 16) % (n2 : Int) := Int.emod_nonneg _ (by omega)
              have h2 : (a.task % 16) % (n2 : Int) < n2 := Int.emod_lt_of_pos _ (by omega)
              exact ⟨((a.task % 16) % (n2 : Int)).toNat, by omega, by omega⟩
            have hnz : ((n2 : Int) == 0) = false := by simp; omega
            go_upto_region 18 with (fail)
            go_cut [12] from 34 to 284 (fun tv wx => tv = .int .i64 (t : Int) ∧ ∃ nq, wx = w6.drewN nq)
            case first => as_aux_lemma =>
              go_quiet (fail)
              go_wp2_with fail
              go_meet
              exact ⟨rfl, _, rfl⟩
            case rest => as_aux_lemma =>
              obtain ⟨rfl, nq, rfl⟩ := hcut
              have X7 : Hid ((w6.drewN nq).heap[X]? = some (.cells #[.slice p.A n2 p.ca, .int .i64 st, .slice p.T n2 p.ct, .slice p.S m p.cs] 29 (0, 0))) := X6
              have Y7 : Hid ((w6.drewN nq).heap[Y]? = some (.cells #[.slice p.A n2 p.ca, .int .i64 st, .slice p.T n2 p.ct, .slice p.S m p.cs] 29 (0, 0))) := Y6
              have V7 : Hid ((w6.drewN nq).heap[V]? = some (.cells #[.slice p.A n2 p.ca, .int .i64 st, .slice p.T n2 p.ct, .slice p.S m p.cs] 29 (0, 0))) := V6
              have R7 : Hid (RunO (w6.drewN nq) (fun b => b < Y ∧ b ≠ X) p r) := Lib.hid (R6.out.keep (Nat.le_refl _) fun _ _ _ => rfl)
              have BT7 : Hid (But w4.heap.size X w4 (w6.drewN nq)) := Lib.hid (BT6.out.drewN nq)
              have h0 : (w6.drewN nq).cell? ⟨ba, oa + k * 5, none⟩ = some (.int .i64 a.op) := g0
              clear g0 g1 c0 c1 c2 c3 b15 q0 q1 ht hnz
              generalize w6.drewN nq = w7 at *
              generalize hop : a.op = op at *
              clear X6 Y6 V6 R6 BT6 B6 X5 Y5 R5 B5 BW5
              go_upto_block 2 with fail
              have HOP := Lib.hid h0
              obtain ⟨⟨c0, c1, c2, c3⟩, -⟩ := obj4 X7.out
              obtain ⟨⟨-, -, -, -⟩, f0, f1, f2, f3⟩ := obj4 V7.out
              have VL : V < w7.heap.size := lt_of_block V7.out
              have XL : X < w7.heap.size := lt_of_block X7.out
              have XV : X ≠ V := by have := HXY.out; have := HVY.out; omega
              have tk16 : (t : Int) < 16 := by omega
              obtain ⟨b, off, z, hT, hb, hz, hzi, e0, e1, e2, e3⟩ := TksO.at_ (i := t) R7.out.t (by rw [TL.out]; exact htn)
              have bV : b ≠ V := by have hbb : b < Y ∧ b ≠ X := hb.out; have := HVY.out; omega
              obtain ⟨b2, off2, A2, cc2, dt, hT2, hb2', hd2, -, -, -, -, -, -, -, -, d5⟩ := DefO.at_ (i := t) R7.out.d (by rw [DL.out]; exact htn)
              have b2V : b2 ≠ V := by have hbb : b2 < Y ∧ b2 ≠ X := hb2'.out; have := HVY.out; omega
              have HT := Lib.hid hT
              have HT2 := Lib.hid hT2
              rw [hT] at c2
              rw [hT2] at c0
              have ON : Hid ((str dt.on).size ≤ 140737488355328) := Lib.hid (by
                have h1 := (IV.out.good.fair.2 dt (List.mem_of_getElem? hd2.out)).2.2
                have h2 : (str dt.on).size = dt.on.length := by simp [str, ByteArray.size]
                omega)
              obtain ⟨on, hon⟩ : ∃ on, on = str dt.on := ⟨_, rfl⟩
              rw [← hon] at ON d5
              clear hon hT2
              have ZI : inI z.tr := hzi.out.2.1
              have ZT : 0 ≤ z.tr ∧ z.tr ≤ 9 := by
                have h1 := IV.out.task t (by rw [DL.out]; exact htn)
                have h2 := IV.out.nums (i := t) (by rw [DL.out]; exact htn)
                rw [List.getD_eq_getElem?_getD, hz.out] at h1
                exact ⟨h1.tr0, by have := h1.tr1; simp only [Option.getD_some] at this; omega⟩
              have RV : Hid (∀ W : World, RunO W (fun b => b < Y ∧ b ≠ X) p r → rv p r = .agg #[.slice (some ⟨b2, off2, none⟩) n2 p.ca, .int .i64 st, .slice (some ⟨b, off, none⟩) n2 p.ct, .slice p.S m p.cs]) := Lib.hid fun W _ => by
                unfold rv
                rw [DL.out, ← ST.out, TL.out, ← SM.out, HT.out, HT2.out]
              have R8 : Hid (RunO w7.drew (fun b => b < Y ∧ b ≠ X) p r) := Lib.hid (R7.out.keep (Nat.le_refl _) fun _ _ _ => rfl)
              have SK : Hid (∀ W : World, Below w7.heap.size w7 W → (W.cell? ⟨X, 0, none⟩ = some (.slice (some ⟨b2, off2, none⟩) n2 p.ca) ∧ W.cell? ⟨X, 1, none⟩ = some (.int .i64 st) ∧ W.cell? ⟨X, 2, none⟩ = some (.slice (some ⟨b, off, none⟩) n2 p.ct) ∧ W.cell? ⟨X, 3, none⟩ = some (.slice p.S m p.cs) ∧ W.cell? ⟨b, off + t * 4 + 1, none⟩ = some (.int .i64 z.tr) ∧ W.cell? ⟨b2, off2 + t * 6 + 5, none⟩ = some (.string on)) ∧ W.heap[V]? = some (.cells #[.slice p.A n2 p.ca, .int .i64 st, .slice p.T n2 p.ct, .slice p.S m p.cs] 29 (0, 0))) := Lib.hid fun W hW =>
                ⟨⟨(hW.cell (p := ⟨X, _, none⟩) XL).trans c0, (hW.cell (p := ⟨X, _, none⟩) XL).trans c1, (hW.cell (p := ⟨X, _, none⟩) XL).trans c2, (hW.cell (p := ⟨X, _, none⟩) XL).trans c3, (hW.cell (p := ⟨b, _, none⟩) (show b < w7.heap.size by have hbb : b < Y ∧ b ≠ X := hb.out; have := HVY.out; omega)).trans e1, (hW.cell (p := ⟨b2, _, none⟩) (show b2 < w7.heap.size by have hbb : b2 < Y ∧ b2 ≠ X := hb2'.out; have := HVY.out; omega)).trans d5⟩, (hW.block _ VL).trans V7.out⟩
              have DB : Hid (∀ W : World, Below w7.drew.heap.size w7.drew W → Below w7.heap.size w7 W) := Lib.hid fun W h => ⟨h.os, h.tape, h.output, h.size, h.block⟩
              clear hT hb
              go_cut [11] from 34 to 284 (fun fv wx => ∃ (er : Int) (q : At3) (x : Rn.R) (nx : Nat) (sx : Int) (tx mx : Nat), fv = .int .i64 er ∧ Hid (Swi w7 V r er q x nx sx tx mx wx))
              case first =>
                -- the switch is written by genrnord.py
                by_cases o0 : op = 0
                · as_aux_lemma =>
                  subst o0
                  obtain ⟨v, hv⟩ : ∃ v, v = Rn.leaseV r (t : Int) (z.tr + 1) now' := ⟨_, rfl⟩
                  have NX : Hid (Rn.Next r v) := Lib.hid (hv ▸ Rn.lease_next IV.out (by omega) (by unfold Rn.tickMax; omega))
                  obtain ⟨x, er⟩ := v
                  have LS : Hid (Calls Tryd.prog 10 #[.agg #[.slice (some ⟨b2, off2, none⟩) n2 p.ca, .int .i64 st, .slice (some ⟨b, off, none⟩) n2 p.ct, .slice p.S m p.cs], .int .i64 (t : Int), .int .i64 (z.tr + 1), .int .i64 now'] w7.drew (RunY w7.drew x x.d.length x.st x.ts.length x.sg.length er)) := Lib.hid (by
                    have := lease_p p r IV.out w7.drew _ R8.out (t : Int) (z.tr + 1) now' (by unfold inI; omega) (by unfold inI; omega) (by omega) (by unfold Rn.tickMax; omega)
                    rw [RV.out _ R8.out] at this
                    exact this.mono fun e w' h => h.of hv.symm rfl rfl rfl rfl)
                  have hw1 : IntKind.i64.wrap (z.tr + 1) = z.tr + 1 := IntWalk.i64_in _ (by omega)
                  clear hv
                  go_upto_region 22 with (fail)
                  go_region_held3 (fun w' => w'.cell? ⟨X, 0, none⟩ = some (.slice (some ⟨b2, off2, none⟩) n2 p.ca) ∧ w'.cell? ⟨X, 1, none⟩ = some (.int .i64 st) ∧ w'.cell? ⟨X, 2, none⟩ = some (.slice (some ⟨b, off, none⟩) n2 p.ct) ∧ w'.cell? ⟨X, 3, none⟩ = some (.slice p.S m p.cs) ∧ w'.cell? ⟨b, off + t * 4 + 1, none⟩ = some (.int .i64 z.tr) ∧ w'.cell? ⟨b2, off2 + t * 6 + 5, none⟩ = some (.string on)) ((first | (with_reducible exact ⟨k0, k1, k2, k3, k4, k5⟩) | (with_reducible exact ⟨set4_cell XV k0, set4_cell XV k1, set4_cell XV k2, set4_cell XV k3, set4_cell bV k4, set4_cell b2V k5⟩) | go_keep))
                    (first | (go_simp; go_at_call 10; (with_reducible refine LS.out.mono ?_); rintro e w8 ⟨q, rfl, hr8, hb8⟩; have B8 := Lib.hid (DB.out _ hb8.out); obtain ⟨⟨k0, k1, k2, k3, k4, k5⟩, kV⟩ := SK.out _ B8.out; have KV := Lib.hid kV; obtain ⟨⟨y0, y1, y2, y3⟩, g0, g1, g2, g3⟩ := obj4 kV; clear kV hb8))
                  go_wp2_with fail
                  go_meet
                  exact ⟨er, q, x, _, _, _, _, rfl, Lib.hid (Swi.mk_ NX.out rfl rfl rfl rfl hr8.out B8.out VL V7.out)⟩
                · have p0 : (op == 0) = false := by simpa using o0
                  by_cases o1 : op = 1
                  · as_aux_lemma =>
                    subst o1
                    obtain ⟨v, hv⟩ : ∃ v, v = Rn.doneV r (t : Int) z.tr ({ data := #[] } : ByteArray).data.toList := ⟨_, rfl⟩
                    have NX : Hid (Rn.Next r v) := Lib.hid (hv ▸ Rn.done_next IV.out (by decide))
                    obtain ⟨x, er⟩ := v
                    have LS : Hid (Calls Tryd.prog 12 #[.agg #[.slice (some ⟨b2, off2, none⟩) n2 p.ca, .int .i64 st, .slice (some ⟨b, off, none⟩) n2 p.ct, .slice p.S m p.cs], .int .i64 (t : Int), .int .i64 z.tr, .string { data := #[] }] w7.drew (RunY w7.drew x x.d.length x.st x.ts.length x.sg.length er)) := Lib.hid (by
                      have := done_p p r IV.out w7.drew _ R8.out (t : Int) z.tr { data := #[] } (by unfold inI; omega) (by unfold inI; omega) (by decide)
                      rw [RV.out _ R8.out] at this
                      exact this.mono fun e w' h => h.of hv.symm rfl rfl rfl rfl)
                    have hw1 : IntKind.i64.wrap (z.tr + 1) = z.tr + 1 := IntWalk.i64_in _ (by omega)
                    clear hv
                    go_upto_region 24 with (fail)
                    go_region_held3 (fun w' => w'.cell? ⟨X, 0, none⟩ = some (.slice (some ⟨b2, off2, none⟩) n2 p.ca) ∧ w'.cell? ⟨X, 1, none⟩ = some (.int .i64 st) ∧ w'.cell? ⟨X, 2, none⟩ = some (.slice (some ⟨b, off, none⟩) n2 p.ct) ∧ w'.cell? ⟨X, 3, none⟩ = some (.slice p.S m p.cs) ∧ w'.cell? ⟨b, off + t * 4 + 1, none⟩ = some (.int .i64 z.tr) ∧ w'.cell? ⟨b2, off2 + t * 6 + 5, none⟩ = some (.string on)) ((first | (with_reducible exact ⟨k0, k1, k2, k3, k4, k5⟩) | (with_reducible exact ⟨set4_cell XV k0, set4_cell XV k1, set4_cell XV k2, set4_cell XV k3, set4_cell bV k4, set4_cell b2V k5⟩) | go_keep))
                      (first | (go_simp; go_at_call 12; (with_reducible refine LS.out.mono ?_); rintro e w8 ⟨q, rfl, hr8, hb8⟩; have B8 := Lib.hid (DB.out _ hb8.out); obtain ⟨⟨k0, k1, k2, k3, k4, k5⟩, kV⟩ := SK.out _ B8.out; have KV := Lib.hid kV; obtain ⟨⟨y0, y1, y2, y3⟩, g0, g1, g2, g3⟩ := obj4 kV; clear kV hb8))
                    go_wp2_with fail
                    go_meet
                    exact ⟨er, q, x, _, _, _, _, rfl, Lib.hid (Swi.mk_ NX.out rfl rfl rfl rfl hr8.out B8.out VL V7.out)⟩
                  · have p1 : (op == 1) = false := by simpa using o1
                    by_cases o2 : op = 2
                    · as_aux_lemma =>
                      subst o2
                      obtain ⟨v, hv⟩ : ∃ v, v = Rn.failV r (t : Int) z.tr now' := ⟨_, rfl⟩
                      have NX : Hid (Rn.Next r v) := Lib.hid (hv ▸ Rn.fail_next IV.out (by omega) (by unfold Rn.tickMax; omega))
                      obtain ⟨x, er⟩ := v
                      have LS : Hid (Calls Tryd.prog 13 #[.agg #[.slice (some ⟨b2, off2, none⟩) n2 p.ca, .int .i64 st, .slice (some ⟨b, off, none⟩) n2 p.ct, .slice p.S m p.cs], .int .i64 (t : Int), .int .i64 z.tr, .int .i64 now'] w7.drew (RunY w7.drew x x.d.length x.st x.ts.length x.sg.length er)) := Lib.hid (by
                        have := fail_p p r IV.out w7.drew _ R8.out (t : Int) z.tr now' (by unfold inI; omega) (by unfold inI; omega) (by omega) (by unfold Rn.tickMax; omega)
                        rw [RV.out _ R8.out] at this
                        exact this.mono fun e w' h => h.of hv.symm rfl rfl rfl rfl)
                      have hw1 : IntKind.i64.wrap (z.tr + 1) = z.tr + 1 := IntWalk.i64_in _ (by omega)
                      clear hv
                      go_upto_region 26 with (fail)
                      go_region_held3 (fun w' => w'.cell? ⟨X, 0, none⟩ = some (.slice (some ⟨b2, off2, none⟩) n2 p.ca) ∧ w'.cell? ⟨X, 1, none⟩ = some (.int .i64 st) ∧ w'.cell? ⟨X, 2, none⟩ = some (.slice (some ⟨b, off, none⟩) n2 p.ct) ∧ w'.cell? ⟨X, 3, none⟩ = some (.slice p.S m p.cs) ∧ w'.cell? ⟨b, off + t * 4 + 1, none⟩ = some (.int .i64 z.tr) ∧ w'.cell? ⟨b2, off2 + t * 6 + 5, none⟩ = some (.string on)) ((first | (with_reducible exact ⟨k0, k1, k2, k3, k4, k5⟩) | (with_reducible exact ⟨set4_cell XV k0, set4_cell XV k1, set4_cell XV k2, set4_cell XV k3, set4_cell bV k4, set4_cell b2V k5⟩) | go_keep))
                        (first | (go_simp; go_at_call 13; (with_reducible refine LS.out.mono ?_); rintro e w8 ⟨q, rfl, hr8, hb8⟩; have B8 := Lib.hid (DB.out _ hb8.out); obtain ⟨⟨k0, k1, k2, k3, k4, k5⟩, kV⟩ := SK.out _ B8.out; have KV := Lib.hid kV; obtain ⟨⟨y0, y1, y2, y3⟩, g0, g1, g2, g3⟩ := obj4 kV; clear kV hb8))
                      go_wp2_with fail
                      go_meet
                      exact ⟨er, q, x, _, _, _, _, rfl, Lib.hid (Swi.mk_ NX.out rfl rfl rfl rfl hr8.out B8.out VL V7.out)⟩
                    · have p2 : (op == 2) = false := by simpa using o2
                      by_cases o3 : op = 3
                      · as_aux_lemma =>
                        subst o3
                        obtain ⟨x, hx⟩ : ∃ x, x = Rn.tickS r now' := ⟨_, rfl⟩
                        have NX : Hid (Rn.Next r (x, 0)) := Lib.hid (hx ▸ Rn.tick_next IV.out (by omega) (by unfold Rn.tickMax; omega))
                        have LS : Hid (Calls Tryd.prog 14 #[.agg #[.slice (some ⟨b2, off2, none⟩) n2 p.ca, .int .i64 st, .slice (some ⟨b, off, none⟩) n2 p.ct, .slice p.S m p.cs], .int .i64 now'] w7 (RunY1 w7 x x.d.length x.st x.ts.length x.sg.length)) := Lib.hid (by
                          have := tick_p p r IV.out w7 _ R7.out now' (by omega) (by unfold Rn.tickMax; omega)
                          rw [RV.out _ R7.out] at this
                          exact this.mono fun e w' h => h.of hx.symm rfl rfl rfl rfl)
                        clear hx
                        go_wp2_with fail
                        (with_reducible refine LS.out.mono ?_); rintro e w8 ⟨q, rfl, hr8, hb8⟩
                        have B8 := Lib.hid hb8.out
                        obtain ⟨-, kV⟩ := SK.out _ B8.out
                        obtain ⟨⟨y0, y1, y2, y3⟩, g0, g1, g2, g3⟩ := obj4 kV
                        clear kV hb8
                        go_wp2_with fail
                        go_meet
                        exact ⟨0, q, x, _, _, _, _, rfl, Lib.hid (Swi.mk_ NX.out rfl rfl rfl rfl hr8.out B8.out VL V7.out)⟩
                      · as_aux_lemma =>
                        have p3 : (op == 3) = false := by simpa using o3
                        obtain ⟨v, hv⟩ : ∃ v, v = Rn.sigV r on.data.toList := ⟨_, rfl⟩
                        have NX : Hid (Rn.Next r v) := Lib.hid (hv ▸ Rn.sig_next IV.out)
                        obtain ⟨x, er⟩ := v
                        have LS : Hid (Calls Tryd.prog 16 #[.agg #[.slice (some ⟨b2, off2, none⟩) n2 p.ca, .int .i64 st, .slice (some ⟨b, off, none⟩) n2 p.ct, .slice p.S m p.cs], .string on] w7.drew (RunY w7.drew x x.d.length x.st x.ts.length x.sg.length er)) := Lib.hid (by
                          have := sig_p p r IV.out w7.drew _ R8.out on ON.out
                          rw [RV.out _ R8.out] at this
                          exact this.mono fun e w' h => h.of hv.symm rfl rfl rfl rfl)
                        have hw1 : IntKind.i64.wrap (z.tr + 1) = z.tr + 1 := IntWalk.i64_in _ (by omega)
                        clear hv
                        go_upto_region 20 with (fail)
                        go_region_held3 (fun w' => w'.cell? ⟨X, 0, none⟩ = some (.slice (some ⟨b2, off2, none⟩) n2 p.ca) ∧ w'.cell? ⟨X, 1, none⟩ = some (.int .i64 st) ∧ w'.cell? ⟨X, 2, none⟩ = some (.slice (some ⟨b, off, none⟩) n2 p.ct) ∧ w'.cell? ⟨X, 3, none⟩ = some (.slice p.S m p.cs) ∧ w'.cell? ⟨b, off + t * 4 + 1, none⟩ = some (.int .i64 z.tr) ∧ w'.cell? ⟨b2, off2 + t * 6 + 5, none⟩ = some (.string on)) ((first | (with_reducible exact ⟨k0, k1, k2, k3, k4, k5⟩) | (with_reducible exact ⟨set4_cell XV k0, set4_cell XV k1, set4_cell XV k2, set4_cell XV k3, set4_cell bV k4, set4_cell b2V k5⟩) | go_keep))
                          (first | (go_simp; go_at_call 16; (with_reducible refine LS.out.mono ?_); rintro e w8 ⟨q, rfl, hr8, hb8⟩; have B8 := Lib.hid (DB.out _ hb8.out); obtain ⟨⟨k0, k1, k2, k3, k4, k5⟩, kV⟩ := SK.out _ B8.out; have KV := Lib.hid kV; obtain ⟨⟨y0, y1, y2, y3⟩, g0, g1, g2, g3⟩ := obj4 kV; clear kV hb8))
                        go_wp2_with fail
                        go_meet
                        exact ⟨er, q, x, _, _, _, _, rfl, Lib.hid (Swi.mk_ NX.out rfl rfl rfl rfl hr8.out B8.out VL V7.out)⟩
              case rest => as_aux_lemma =>
                obtain ⟨er, q, x, nx, sx, tx, mx, rfl, SW⟩ := hcut
                have VX := Lib.hid SW.out.box
                have XW8 : Hid (wc.heap[X]? = some (.cells #[.slice p.A n2 p.ca, .int .i64 st, .slice p.T n2 p.ct, .slice p.S m p.cs] 29 (0, 0))) := Lib.hid ((SW.out.but.block _ XL XV).trans X7.out)
                have YW8 : Hid (wc.heap[Y]? = some (.cells #[.slice p.A n2 p.ca, .int .i64 st, .slice p.T n2 p.ct, .slice p.S m p.cs] 29 (0, 0))) := Lib.hid ((SW.out.but.block _ (lt_of_block Y7.out) (by have := HVY.out; omega)).trans Y7.out)
                have RW8 : Hid (RunO wc (fun b => b < Y ∧ b ≠ X) p r) := Lib.hid (R7.out.keep SW.out.but.size fun b h1 h2 => SW.out.but.block _ h2 (by have hbb : b < Y ∧ b ≠ X := h1; have := HVY.out; omega))
                have BT8 : Hid (But w4.heap.size X w4 wc) := Lib.hid (by
                  refine ⟨SW.out.but.os.trans BT7.out.os, SW.out.but.tape.trans BT7.out.tape, SW.out.but.output.trans BT7.out.output, Nat.le_trans BT7.out.size SW.out.but.size, fun i h1 h2 => ?_⟩
                  have h3 := BT.out.size
                  have h4 := HY.out
                  have h5 := HVY.out
                  exact (SW.out.but.block i (Nat.lt_of_lt_of_le h1 BT7.out.size) (by omega)).trans (BT7.out.block i h1 h2))
                clear c0 c1 c2 c3 f0 f1 f2 f3 e0 e1 e2 e3 d5 SK R8 HOP h0
                obtain ⟨⟨c0, c1, c2, c3⟩, f0, f1, f2, f3⟩ := obj4 XW8.out
                obtain ⟨⟨v0, v1, v2, v3⟩, -⟩ := obj4 VX.out
                go_upto_if 142 with (fail)
                go_cut [] from 34 to 284 (fun wx => ∃ (p' : At3) (r' : Rn.R) (st' : Int) (m' : Nat), Hid (Rn.Inv r') ∧ Hid (Rn.Mono r r') ∧ Hid (r'.d.length = n2) ∧ Hid (st' = r'.st) ∧ Hid (m' = r'.sg.length) ∧ Hid (RunO wx (fun b => b ≠ X) p' r') ∧ Hid (wx.heap[X]? = some (.cells #[.slice p'.A n2 p'.ca, .int .i64 st', .slice p'.T n2 p'.ct, .slice p'.S m' p'.cs] 29 (0, 0))) ∧ Hid (wx.heap[Y]? = some (.cells #[.slice p.A n2 p.ca, .int .i64 st, .slice p.T n2 p.ct, .slice p.S m p.cs] 29 (0, 0))) ∧ Hid (RunO wx (fun b => b < Y ∧ b ≠ X) p r) ∧ Hid (But w4.heap.size X w4 wx))
                case first => as_aux_lemma =>
                  by_cases he : er = 0
                  · subst he
                    have NE := Lib.hid (SW.out.next rfl)
                    obtain rfl : nx = n2 := by rw [SW.out.hn, NE.out.2.d, DL.out]
                    obtain rfl : tx = nx := by rw [SW.out.ht, NE.out.2.len, TL.out]
                    have H9 : Hid ((S4 wc X (.slice q.A tx q.ca) (.int .i64 sx) (.slice q.T tx q.ct) (.slice q.S mx q.cs)).heap[X]? = some (.cells #[.slice q.A tx q.ca, .int .i64 sx, .slice q.T tx q.ct, .slice q.S mx q.cs] 29 (0, 0))) := Lib.hid (S4.at_ XW8.out _ _ _ _)
                    have Y9 : Hid ((S4 wc X (.slice q.A tx q.ca) (.int .i64 sx) (.slice q.T tx q.ct) (.slice q.S mx q.cs)).heap[Y]? = some (.cells #[.slice p.A tx p.ca, .int .i64 st, .slice p.T tx p.ct, .slice p.S m p.cs] 29 (0, 0))) := Lib.hid ((S4.else_ _ _ _ _ _ _ (by have := HXY.out; omega)).trans YW8.out)
                    have RR9 : Hid (RunO (S4 wc X (.slice q.A tx q.ca) (.int .i64 sx) (.slice q.T tx q.ct) (.slice q.S mx q.cs)) (fun b => b ≠ X) q x) := Lib.hid ((SW.out.at_.keep (by rw [S4.size_]; exact Nat.le_refl _) fun b hb2 _ => S4.else_ _ _ _ _ _ _ (by have := HXY.out; have := HVY.out; omega)).imp fun b _ hb2 => by have := HXY.out; have := HVY.out; omega)
                    have RP9 : Hid (RunO (S4 wc X (.slice q.A tx q.ca) (.int .i64 sx) (.slice q.T tx q.ct) (.slice q.S mx q.cs)) (fun b => b < Y ∧ b ≠ X) p r) := Lib.hid (RW8.out.keep (by rw [S4.size_]; exact Nat.le_refl _) fun b hb2 _ => S4.else_ _ _ _ _ _ _ hb2.2)
                    have BT9 : Hid (But w4.heap.size X w4 (S4 wc X (.slice q.A tx q.ca) (.int .i64 sx) (.slice q.T tx q.ct) (.slice q.S mx q.cs))) := Lib.hid (BT8.out.trans (((But.set _ X 0 _ _).trans (But.set _ X 1 _ _)).trans ((But.set _ X 2 _ _).trans (But.set _ X 3 _ _))))
                    go_wp2_with fail
                    go_meet
                    exact ⟨q, x, sx, mx, Lib.hid NE.out.1, Lib.hid NE.out.2, Lib.hid SW.out.hn.symm, Lib.hid SW.out.hs, Lib.hid SW.out.hm, RR9, H9, Y9, RP9, BT9⟩
                  · have he' : (er == 0) = false := by simpa using he
                    go_wp2_with fail
                    go_meet
                    exact ⟨p, r, st, m, IV, Lib.hid (Rn.Mono.refl r), DL, ST, SM, Lib.hid (RW8.out.imp fun b _ h => h.2), XW8, YW8, RW8, BT8⟩
                case rest => as_aux_lemma =>
                  obtain ⟨p', r', st', m', IV', MO, DL', ST', SM', RN, XN, YN, RO, BT9⟩ := hcut
                  obtain ⟨w9, hw9⟩ : ∃ w9, w9 = wc := ⟨_, rfl⟩
                  subst hw9
                  clear SW VX XW8 YW8 RW8 BT8 c0 c1 c2 c3 f0 f1 f2 f3 v0 v1 v2 v3 X7 Y7 V7 R7 BT7
                  have TL' : Hid (r'.ts.length = n2) := Lib.hid (by rw [IV'.out.len, DL'.out])
                  obtain ⟨⟨c0, c1, c2, c3⟩, -⟩ := obj4 XN.out
                  obtain ⟨⟨y0, y1, y2, y3⟩, -⟩ := obj4 YN.out
                  have HLn : Hid (L = L) := Lib.hid rfl
                  go_upto_region 34 with (fail)
                  go_wp2_with fail
                  go_loopw [13, 14] (fun dv kv w' => ∃ kk : Nat, kk ≤ n2 ∧ kv = .int .i64 kk ∧ dv = .int .i64 (Rn.dones (r'.ts.take kk) : Nat) ∧ Below w9.heap.size w9 w') (fun _ kv _ => n2 - (intOf kv).toNat)
                  case atStart => exact ⟨0, Nat.zero_le _, rfl, rfl, Below.refl _ _⟩
                  case round => as_aux_lemma =>
                    obtain ⟨kk, hkk, rfl, rfl, hbl⟩ := hrel
                    have HB := Lib.hid hbl
                    have XR : wr.heap[X]? = some (.cells #[.slice p'.A n2 p'.ca, .int .i64 st', .slice p'.T n2 p'.ct, .slice p'.S m' p'.cs] 29 (0, 0)) := (hbl.block _ (lt_of_block XN.out)).trans XN.out
                    have YR : wr.heap[Y]? = some (.cells #[.slice p.A n2 p.ca, .int .i64 st, .slice p.T n2 p.ct, .slice p.S m p.cs] 29 (0, 0)) := (hbl.block _ (lt_of_block YN.out)).trans YN.out
                    have RNr := Lib.hid (RN.out.on hbl)
                    have ROr := Lib.hid (RO.out.on hbl)
                    clear c0 c1 c2 c3 y0 y1 y2 y3 hbl
                    obtain ⟨⟨c0, c1, c2, c3⟩, -⟩ := obj4 XR
                    obtain ⟨⟨y0, y1, y2, y3⟩, -⟩ := obj4 YR
                    by_cases hlk : kk < n2
                    · have hlk' : (kk : Int) < (n2 : Int) := by omega
                      obtain ⟨bd, od, A3, cd, dt', hTd, hbd, hdt, HZ, hlc, hnu, d0, d1, d2, d3, d4, d5⟩ := DefO.at_ (i := kk) RNr.out.d (by rw [DL'.out]; exact hlk)
                      obtain ⟨bt, ot, z', hTt, hbt, hzt, hzi', e0, e1, e2, e3⟩ := TksO.at_ (i := kk) RNr.out.t (by rw [TL'.out]; exact hlk)
                      obtain ⟨bw, ow, zw, hTw, hbw, hzw, hziw, f0, f1, f2, f3⟩ := TksO.at_ (i := kk) ROr.out.t (by rw [TL.out]; exact hlk)
                      have HTd := Lib.hid hTd
                      have HTt := Lib.hid hTt
                      have HTw := Lib.hid hTw
                      rw [hTd] at c0
                      rw [hTt] at c2
                      rw [hTw] at y2
                      clear hTd hTt hTw
                      have DX : Hid ((wr.alloc (.cells #[.string (str dt'.name), .slice A3 dt'.after.length cd, .int .i64 dt'.retry, .int .i64 dt'.wait, .int .i64 dt'.base, .string (str dt'.on)] 48)).heap[wr.heap.size]? = some (.cells #[.string (str dt'.name), .slice A3 dt'.after.length cd, .int .i64 dt'.retry, .int .i64 dt'.wait, .int .i64 dt'.base, .string (str dt'.on)] 48 (0, 0))) := Lib.hid (heap_alloc_new _ _)
                      have BX10 : Hid (Below wr.heap.size wr (wr.alloc (.cells #[.string (str dt'.name), .slice A3 dt'.after.length cd, .int .i64 dt'.retry, .int .i64 dt'.wait, .int .i64 dt'.base, .string (str dt'.on)] 48))) := Lib.hid ((Below.refl _ _).alloc (Nat.le_refl _) _)
                      have ZA : Hid (r'.ts.getD kk Rn.t0 = z') := Lib.hid (by rw [List.getD_eq_getElem?_getD, hzt.out]; rfl)
                      have ZB : Hid (r.ts.getD kk Rn.t0 = zw) := Lib.hid (by rw [List.getD_eq_getElem?_getD, hzw.out]; rfl)
                      have DA : Hid (r'.d[kk]'(by rw [DL'.out]; exact hlk) = dt') := Lib.hid (by
                        have := hdt.out
                        rw [List.getElem?_eq_getElem (by rw [DL'.out]; exact hlk)] at this
                        injection this)
                      have TO := Lib.hid (DA.out ▸ ZA.out ▸ IV'.out.task kk (by rw [DL'.out]; exact hlk))
                      have MT : Hid (zw.tr ≤ z'.tr) := Lib.hid (ZA.out ▸ ZB.out ▸ MO.out.tr kk (by rw [TL.out]; exact hlk))
                      have MD : Hid (zw.ph = 3 → z' = zw) := Lib.hid fun h => by rw [← ZA.out, ← ZB.out]; exact MO.out.done kk (by rw [TL.out]; exact hlk) (by rw [ZB.out]; exact h)
                      have NM : 0 ≤ dt'.retry ∧ dt'.retry ≤ 8 := by
                        have := IV'.out.nums (i := kk) (by rw [DL'.out]; exact hlk)
                        rw [DA.out] at this
                        exact ⟨this.1, this.2.1⟩
                      obtain ⟨nm0, nm8⟩ := NM
                      have LX : X < wr.heap.size := lt_of_block XR
                      have LY : Y < wr.heap.size := lt_of_block YR
                      have Lt : bt < wr.heap.size := block_lt e0
                      have Lw : bw < wr.heap.size := block_lt f0
                      go_upto_region 38 with (fail)
                      generalize wr.alloc (.cells #[.string (str dt'.name), .slice A3 dt'.after.length cd, .int .i64 dt'.retry, .int .i64 dt'.wait, .int .i64 dt'.base, .string (str dt'.on)] 48) = w10 at *
                      generalize hU : wr.heap.size = U at *
                      replace c0 := (BX10.out.cell (p := ⟨X, _, none⟩) LX).trans c0
                      replace c1 := (BX10.out.cell (p := ⟨X, _, none⟩) LX).trans c1
                      replace c2 := (BX10.out.cell (p := ⟨X, _, none⟩) LX).trans c2
                      replace y0 := (BX10.out.cell (p := ⟨Y, _, none⟩) LY).trans y0
                      replace y2 := (BX10.out.cell (p := ⟨Y, _, none⟩) LY).trans y2
                      replace e0 := (BX10.out.cell (p := ⟨bt, _, none⟩) Lt).trans e0
                      replace e1 := (BX10.out.cell (p := ⟨bt, _, none⟩) Lt).trans e1
                      replace e2 := (BX10.out.cell (p := ⟨bt, _, none⟩) Lt).trans e2
                      replace e3 := (BX10.out.cell (p := ⟨bt, _, none⟩) Lt).trans e3
                      replace f0 := (BX10.out.cell (p := ⟨bw, _, none⟩) Lw).trans f0
                      replace f1 := (BX10.out.cell (p := ⟨bw, _, none⟩) Lw).trans f1
                      replace f2 := (BX10.out.cell (p := ⟨bw, _, none⟩) Lw).trans f2
                      replace f3 := (BX10.out.cell (p := ⟨bw, _, none⟩) Lw).trans f3
                      have u1 : w10.cell? ⟨U, 1, none⟩ = some (.slice A3 dt'.after.length cd) := by simp [World.cell?, DX.out]
                      have u2 : w10.cell? ⟨U, 2, none⟩ = some (.int .i64 dt'.retry) := by simp [World.cell?, DX.out]
                      clear c3 y1 y3 d0 d1 d2 d3 d4 d5
                      have hwr : IntKind.i64.wrap (dt'.retry + 1) = dt'.retry + 1 := IntWalk.i64_in _ (by omega)
                      have g1 : decide (dt'.retry + 1 < z'.tr) = false := decide_eq_false (by have := TO.out.tr1; omega)
                      have g2 : decide (z'.tr < zw.tr) = false := decide_eq_false (by have := MT.out; omega)
                      go_cut [220] from 161 to 275 (fun bv wx => bv = .bool false ∧ ∃ nq, wx = w10.drewN nq)
                      case first => as_aux_lemma =>
                        by_cases h3 : zw.ph = 3
                        · obtain rfl := MD.out h3
                          have NQ := tk_neq z' z' hzi'.out hzi'.out (by have := TO.out.big; omega) (by have := TO.out.big; omega)
                          rw [show decide (z' = z') = true from decide_eq_true rfl] at NQ
                          unfold tkv at NQ
                          rw [h3] at NQ e0 f0
                          go_quiet (fail)
                          go_wp2_with fail
                          go_meet
                          exact ⟨rfl, _, rfl⟩
                        · have p3 : (zw.ph == 3) = false := by simpa using h3
                          go_quiet (fail)
                          go_wp2_with fail
                          go_meet
                          exact ⟨rfl, _, rfl⟩
                      case rest => as_aux_lemma =>
                        obtain ⟨rfl, nq, rfl⟩ := hcut
                        have C0 : (w10.drewN nq).cell? ⟨X, 0, none⟩ = some (.slice (some ⟨bd, od, none⟩) n2 p'.ca) := c0
                        have C2 : (w10.drewN nq).cell? ⟨X, 2, none⟩ = some (.slice (some ⟨bt, ot, none⟩) n2 p'.ct) := c2
                        have E0 : (w10.drewN nq).cell? ⟨bt, ot + kk * 4, none⟩ = some (.int .i64 z'.ph) := e0
                        have U1 : (w10.drewN nq).cell? ⟨U, 1, none⟩ = some (.slice A3 dt'.after.length cd) := u1
                        have RT : Hid (TksO (w10.drewN nq) (fun b => b ≠ X) p'.T r'.ts) := Lib.hid (RNr.out.t.keep (by rw [hU]; exact Nat.le_trans (by rw [← hU]; exact BX10.out.size) (Nat.le_refl _)) fun b _ h => BX10.out.block b (by rw [hU] at h; exact h))
                        have ZS : Hid (ZsO (w10.drewN nq) (fun b => b ≠ X) A3 dt'.after) := Lib.hid (HZ.out.keep (by rw [hU]; exact Nat.le_trans (by rw [← hU]; exact BX10.out.size) (Nat.le_refl _)) fun b _ h => BX10.out.block b (by rw [hU] at h; exact h))
                        have BL11 : Hid (Below w9.heap.size w9 (w10.drewN nq)) := Lib.hid (below_n (HB.out.trans (BX10.out.mono (by rw [← hU]; exact HB.out.size))) nq)
                        clear c0 c1 c2 y0 y2 e0 e1 e2 e3 f0 f1 f2 f3 u1 u2 g1 g2 hwr nm0 nm8 LX LY Lt Lw XR YR
                        generalize w10.drewN nq = w11 at *
                        obtain ⟨dn, hdn⟩ : ∃ dn, dn = Rn.dones (r'.ts.take kk) := ⟨_, rfl⟩
                        have HDN : Hid (Rn.dones (r'.ts.take (kk + 1)) = dn + (if z'.ph = 3 then 1 else 0)) := Lib.hid (by rw [hdn, Rn.dones_next (by rw [TL'.out]; exact hlk), ZA.out])
                        have DLE : dn ≤ 16 := by
                          have := Rn.dones_le (r'.ts.take kk)
                          rw [← hdn, List.length_take] at this
                          omega
                        rw [← hdn]
                        clear hdn
                        go_upto_if 227 with (fail)
                        go_cut [13] from 161 to 275 (fun dv wx => dv = .int .i64 (Rn.dones (r'.ts.take (kk + 1)) : Nat) ∧ wx = w11)
                        case first => as_aux_lemma =>
                          by_cases h3 : z'.ph = 3
                          · rw [h3] at E0
                            go_wp2_with fail
                            go_meet
                            exact ⟨by rw [HDN.out, if_pos h3]; go_num, rfl⟩
                          · have p3 : (z'.ph == 3) = false := by simpa using h3
                            go_wp2_with fail
                            go_meet
                            exact ⟨by rw [HDN.out, if_neg h3]; go_num, rfl⟩
                        case rest => as_aux_lemma =>
                          obtain ⟨rfl, rfl⟩ := hcut
                          obtain ⟨la, hla⟩ : ∃ la, la = dt'.after.length := ⟨_, rfl⟩
                          have LA := Lib.hid hla
                          rw [← hla] at U1
                          clear hla
                          have LA16 : la ≤ 1100 := by
                            rw [LA.out]
                            exact (IV'.out.good.fair.2 dt' (List.mem_of_getElem? hdt.out)).1
                          go_wp2_with fail
                          go_loopw [16] (fun qv w' => ∃ qq : Nat, qq ≤ la ∧ qv = .int .i64 qq ∧ w'.heap = wc.heap ∧ Hid (Below w9.heap.size w9 w')) (fun qv _ => la - (intOf qv).toNat)
                          case atStart => exact ⟨0, Nat.zero_le _, rfl, rfl, BL11⟩
                          case round => as_aux_lemma =>
                            obtain ⟨qq, hqq, rfl, hhp, BLr⟩ := hrel
                            have CE : ∀ a : Addr, wr.cell? a = wc.cell? a := fun a => by simp [World.cell?, hhp]
                            have G0 : wr.cell? ⟨bt, ot + kk * 4, none⟩ = some (.int .i64 z'.ph) := (CE _).trans E0
                            have G1 : wr.cell? ⟨U, 1, none⟩ = some (.slice A3 la cd) := (CE _).trans U1
                            have G2 : wr.cell? ⟨X, 2, none⟩ = some (.slice (some ⟨bt, ot, none⟩) n2 p'.ct) := (CE _).trans C2
                            have HE0 := Lib.hid E0
                            have HU1 := Lib.hid U1
                            have HC2 := Lib.hid C2
                            have HC0 := Lib.hid C0
                            have HHP := Lib.hid hhp
                            have alt0 : ∀ x : Nat, decide ((x : Int) < 0) = false := fun x => decide_eq_false (by omega)
                            clear E0 U1 C2 C0 hhp CE
                            by_cases hlq : qq < la
                            · have hlq' : (qq : Int) < (la : Int) := by omega
                              obtain ⟨b4, o4, hA3, -, -, hcz⟩ := ZS.out.2 (by rw [← LA.out]; omega)
                              have hca : wc.cell? ⟨b4, o4 + qq * 1 + 0, none⟩ = some (.int .i64 (dt'.after.getD qq 0)) := hcz qq (by rw [← LA.out]; exact hlq)
                              rw [Nat.mul_one, Nat.add_zero] at hca
                              obtain ⟨an, han⟩ : ∃ an, an = dt'.after.getD qq 0 := ⟨_, rfl⟩
                              have AM : an ∈ dt'.after := by
                                rw [han, List.getD_eq_getElem?_getD, List.getElem?_eq_getElem (by rw [← LA.out]; exact hlq)]
                                exact List.getElem_mem _
                              have AI : 0 ≤ an ∧ an < (n2 : Int) := by
                                have := (Df.Ok.after IV'.out.good (i := kk) (by rw [DL'.out]; exact hlk)).2 an (by rw [DA.out]; exact AM)
                                rw [DL'.out] at this
                                exact ⟨this.1, this.2.1⟩
                              obtain ⟨a, rfl⟩ : ∃ a : Nat, an = (a : Int) := ⟨an.toNat, by omega⟩
                              have aln : a < n2 := by omega
                              rw [← han] at hca
                              have G3 : wr.cell? ⟨b4, o4 + qq, none⟩ = some (.int .i64 (a : Int)) := (World.cell?_of_block (w := wc) (by rw [HHP.out])).trans hca
                              rw [hA3] at G1
                              clear hcz hca han hA3
                              have ha2 : (a : Int) < (n2 : Int) := by omega
                              have ha0 : (0 : Int) ≤ (a : Int) := by omega
                              have al1 : decide ((n2 : Int) ≤ (a : Int)) = false := decide_eq_false (by omega)
                              have al2 : decide (n2 ≤ a) = false := decide_eq_false (by omega)
                              by_cases hz0 : z'.ph = 0
                              · as_aux_lemma =>
                                rw [hz0] at G0
                                go_wp2_with fail
                                go_quiet (fail)
                                go_wp2
                                exact ⟨⟨qq + 1, by omega, by go_num, HHP.out, Lib.hid (below_n BLr.out _)⟩, by simp [intOf]; omega⟩
                              · as_aux_lemma =>
                                have p0 : (z'.ph == 0) = false := by simpa using hz0
                                have p0' : (z'.ph != 0) = true := by simpa using hz0
                                obtain ⟨b5, o5, za, hT5, -, hz5, -, q0, -⟩ := TksO.at_ (i := a) RT.out (by rw [TL'.out]; exact aln)
                                obtain ⟨rfl, rfl⟩ : b5 = bt ∧ o5 = ot := by
                                  have := hT5.symm.trans HTt.out
                                  injection this with h1
                                  injection h1 with h1 h2
                                  exact ⟨h1, h2⟩
                                have PH : za.ph = 3 := by
                                  have := IV'.out.pre kk (by rw [DL'.out]; exact hlk) (by rw [ZA.out]; exact hz0) (a : Int) (by rw [DA.out]; exact AM)
                                  unfold Rn.phase at this
                                  rw [Int.toNat_natCast, List.getD_eq_getElem?_getD, hz5.out] at this
                                  exact this
                                rw [PH] at q0
                                have G4 : wr.cell? ⟨b5, o5 + a * 4, none⟩ = some (.int .i64 3) := (World.cell?_of_block (w := wc) (by rw [HHP.out])).trans q0
                                clear q0 hz5 hT5 hz0
                                go_wp2_with fail
                                go_quiet (fail)
                                go_wp2
                                exact ⟨⟨qq + 1, by omega, by go_num, HHP.out, Lib.hid (below_n BLr.out _)⟩, by simp [intOf]; omega⟩
                            · obtain rfl : la = qq := by omega
                              go_wp2
                              exact ⟨⟨kk + 1, by omega, by go_num, rfl, BLr.out⟩, by simp [intOf]; omega⟩
                    · obtain rfl : n2 = kk := by omega
                      have ALL : Hid (r'.ts.take n2 = r'.ts) := Lib.hid (by rw [← TL'.out, List.take_length])
                      rw [ALL.out]
                      have EQ : Hid ((st' = 1) ↔ Rn.dones r'.ts = n2) := Lib.hid (by
                        rw [ST'.out, IV'.out.fin, ← Rn.dones_all, TL'.out])
                      have BTN : Hid (But w4.heap.size X w4 wr) := Lib.hid (BT9.out.trans (But.of (HB.out.mono BT9.out.size)))
                      have DLE : Rn.dones r'.ts ≤ 16 := by have := Rn.dones_le r'.ts; have := TL'.out; omega
                      generalize Rn.dones r'.ts = dn at *
                      clear y0 y1 y2 y3 YR
                      by_cases h1 : st' = 1
                      · as_aux_lemma =>
                        have hd : dn = n2 := EQ.out.1 h1
                        subst hd
                        subst h1
                        go_wp2
                        exact ⟨⟨k + 1, now', p', r', 1, m', by omega, by go_num, rfl, n1', by omega, IV', DL', ST', SM', RNr, XR, BTN⟩, by simp [intOf]; omega⟩
                      · as_aux_lemma =>
                        have hd : ¬ dn = n2 := fun h => h1 (EQ.out.2 h)
                        have q1 : (st' == 1) = false := by simpa using h1
                        have q2 : ((dn : Int) == (n2 : Int)) = false := by simp; omega
                        go_wp2
                        exact ⟨⟨k + 1, now', p', r', st', m', by omega, by go_num, rfl, n1', by omega, IV', DL', ST', SM', RNr, XR, BTN⟩, by simp [intOf]; omega⟩
          · obtain rfl : L = k := by omega
            have BW : Hid (Below w.heap.size w wr) := Lib.hid (B4.out.trans (BT.out.below B4.out.size XW.out))
            clear hbX
            go_wp2
            go_ret
            exact ⟨rfl, BW⟩
      · have hx' : (x != 0) = true := by simpa using hx
        go_wp2
        go_ret
        exact ⟨rfl, B4⟩
end Go.Proofs.YtpaolgjgonghlaaDoor
/-
  What RunOrder is handed: acts, out of the reading of what came in; the walk in the form that the frame takes.
-/
namespace Go.Proofs.YtpaolgjgonghlaaDoor
open Go.ChangeShapes Go.WideShapes Go.ChangeAt Go.RowKit Go.Deep
theorem ActsR.nil_ {w : World} {B : Nat} {A : Option Addr} : ActsR w B A [] := ⟨fun a h => by simp at h, fun h => by simp at h⟩
theorem inI_of {z : Int} (h0 : -9223372036854775808 ≤ z) (h1 : z ≤ 9223372036854775807) : inI z := by unfold inI; omega
theorem racts_in {H : Type} {enc : TypeId × Value → H} {w : World} {base : Nat} {spare : Nat → Bool} {held : Bool} {fuel : Nat} {cs : List Value} {x : DataW H × List MemPlace}
    (h : DataW.trod enc Tryd.prog w base spare held fuel 43 cs = some x) : ∃ (A : Option Addr) (ms : List Rn.Ac) (cap : Nat), cs = [.slice A ms.length cap] ∧ ms.length ≤ cap ∧ cap ≤ 9223372036854775807 ∧ ActsR w w.heap.size A ms := by
  obtain ⟨A, len, cap, hcs, hl, hm, hc⟩ := rows_in (k := 5) Tryd.underlying43 Tryd.underlying45 (by kernel_rfl) (by decide) h
  rcases Nat.eq_zero_or_pos len with h0 | h0
  · subst h0; exact ⟨A, [], cap, hcs, by simp, hm, ActsR.nil_⟩
  · obtain ⟨b, off, rfl, he⟩ := hc h0
    have hb : b < w.heap.size := by
      obtain ⟨zs, _, _, hz, _, hv⟩ := he 0 h0
      exact block_lt (hv 0 (by omega))
    obtain ⟨ms, hml, hms⟩ := list_of (⟨0, 0, 0, 0, { data := #[] }⟩ : Rn.Ac) (fun i m => acIn m ∧ w.cell? ⟨b, off + i * 5, none⟩ = some (.int .i64 m.op) ∧ w.cell? ⟨b, off + i * 5 + 1, none⟩ = some (.int .i64 m.task) ∧ w.cell? ⟨b, off + i * 5 + 2, none⟩ = some (.int .i64 m.tr) ∧ w.cell? ⟨b, off + i * 5 + 3, none⟩ = some (.int .i64 m.n) ∧ w.cell? ⟨b, off + i * 5 + 4, none⟩ = some (.string m.name)) len (fun i hi => by
        obtain ⟨zs, n, y, hz, ht, hv⟩ := he i hi
        obtain ⟨z0, z1, z2, z3, z4, rfl⟩ : ∃ z0 z1 z2 z3 z4, zs = [z0, z1, z2, z3, z4] := by
          match zs, hz with
          | [a, b, c, d, e], _ => exact ⟨a, b, c, d, e, rfl⟩
        obtain ⟨m0, y0, t0⟩ := field_in Tryd.underlying45 ht 0 _ rfl rfl (by kernel_rfl : _ = 1)
        obtain ⟨m1, y1, t1⟩ := field_in Tryd.underlying45 ht 1 _ rfl rfl (by kernel_rfl : _ = 1)
        obtain ⟨m2, y2, t2⟩ := field_in Tryd.underlying45 ht 2 _ rfl rfl (by kernel_rfl : _ = 1)
        obtain ⟨m3, y3, t3⟩ := field_in Tryd.underlying45 ht 3 _ rfl rfl (by kernel_rfl : _ = 1)
        obtain ⟨m4, y4, t4⟩ := field_in Tryd.underlying45 ht 4 _ rfl rfl (by kernel_rfl : _ = 1)
        obtain ⟨op, rfl, a0, a1⟩ := i64_of Tryd.underlying3 t0
        obtain ⟨ta, rfl, b0, b1⟩ := i64_of Tryd.underlying3 t1
        obtain ⟨tr, rfl, c0, c1⟩ := i64_of Tryd.underlying3 t2
        obtain ⟨nn, rfl, d0, d1⟩ := i64_of Tryd.underlying2 t3
        obtain ⟨na, rfl, hna⟩ := str_of Tryd.underlying9 t4
        exact ⟨⟨op, ta, tr, nn, na⟩, ⟨inI_of a0 a1, inI_of b0 b1, inI_of c0 c1, inI_of d0 d1, hna⟩, hv 0 (by simp), hv 1 (by simp), hv 2 (by simp), hv 3 (by simp), hv 4 (by simp)⟩)
    refine ⟨some ⟨b, off, none⟩, ms, cap, by rw [hml]; exact hcs, by omega, hm, fun a ha => ?_, fun _ => ⟨b, off, rfl, hb, fun i hi => ?_⟩⟩
    · obtain ⟨i, hi, rfl⟩ := List.getElem_of_mem ha
      have := (hms i (by omega)).1
      rwa [List.getD_eq_getElem?_getD, List.getElem?_eq_getElem hi] at this
    · have := (hms i (by omega)).2
      rwa [List.getD_eq_getElem?_getD, List.getElem?_eq_getElem hi] at this
theorem order_end (s : ByteArray) (hs : s.size ≤ 140737488355328) (A : Option Addr) (l : List Rn.Ac) (cap : Nat) (_hm : l.length ≤ 9223372036854775807) (_hl : l.length ≤ cap) (w : World) (hA : ActsR w w.heap.size A l) (hF : FactsD w) : Calls Tryd.prog 4 #[.string s, .slice A l.length cap] w fun e w' => e = .returned (.bool true) ∧ Below w.heap.size w w' :=
  (order_walk s hs A cap l w hF hA).mono fun _ _ h => ⟨h.1, h.2.out⟩
end Go.Proofs.YtpaolgjgonghlaaDoor
