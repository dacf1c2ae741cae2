/-
  Part 22 of the texts behind the law: URnUpdW, URnCp, URnNewK, URnLease, URnDone, URnFail, URnFailP, URnTick, URnTest.
-/
import Derived.Test.YtkbekojnmdgdgaaGreatDoorUs21
import Derived.Laws.MakeOwn
import Derived.Test.YtkbekojnmdgdgaaGreatDoorUs2
import Derived.Deep.RegionHeld
import Derived.BigRegion
import Derived.BigQuiet
import Derived.Deep.QuietTactic
import Derived.Deep.Cut
import Derived.Test.YtkbekojnmdgdgaaGreatDoorUs16
/- RnUpdW -/
namespace Go.Proofs.YtkbekojnmdgdgaaGreatDoor
open Go.RowKit
set_option maxRecDepth 20000
def UpdPost (w : World) (base X : Nat) (p : At3) (r : Rn.R) (n l : Nat) (e : Ending) (w' : World) : Prop :=
 e = .returned (.tuple #[]) ∧ Hid (boxR w' X p n r.st n l) ∧ Hid (Own3 w' base p r) ∧ Hid (Only (fun b => b = X ∨ ¬ Off b p.T) w w')
theorem boxR.on {w w' : World} {X n m l : Nat} {p : At3} {st : Int} (h : boxR w X p n st m l) (hb : Below w.heap.size w w') : boxR w' X p n st m l := (hb.block _ (lt_of_block h)).trans h
theorem not_off {g : Nat} {T : Option Addr} (hT : T = some ⟨g, 0, none⟩) : ¬ Off g T := fun h => h _ hT rfl
def Apart3 (w : World) (base X : Nat) (p : At3) (d : Df.D) : Prop := DefO w (fun b => base ≤ b ∧ Off b p.T ∧ Off b p.S ∧ b ≠ X) p.A d ∧ Off X p.T ∧ Off X p.S
theorem Apart3.of {w : World} {base X : Nat} {p : At3} {r : Rn.R} (h : Own3 w base p r) (hX : X < base) : Apart3 w base X p r.d :=
 ⟨h.d.imp fun b _ k => ⟨k.1, k.2.1, k.2.2, by omega⟩, fun a ea => by have := h.t.own a ea; omega, fun a ea => by have := h.s.own a ea; omega⟩
theorem Own3.setX {w0 w : World} {base X : Nat} {p : At3} {r : Rn.R} (h : Own3 w base p r) (hx : Apart3 w0 base X p r.d) (hy : Only (fun b => b = X ∨ ¬ Off b p.T) w0 w) (o : Nat) (v : Value) : Own3 (w.setCell ⟨X, o, none⟩ v) base p r := by
 have Z : (w.setCell ⟨X, o, none⟩ v).heap.size = w.heap.size := by simp [World.setCell]
 have K : ∀ b, b ≠ X → (w.setCell ⟨X, o, none⟩ v).heap[b]? = w.heap[b]? := fun b hb => Below.heap_setCell _ _ _ _ hb
 refine ⟨((hx.1.keep hy.size fun b hb hl => hy.block b hl ?_).keep (Nat.le_of_eq Z.symm) fun b hb _ => K b hb.2.2.2).imp fun b _ k => ⟨k.1, k.2.1, k.2.2.1⟩, h.dc, h.t.keep fun a ea => K _ (hx.2.1 a ea), h.ti, h.s.keep fun a ea => K _ (hx.2.2 a ea), h.ap⟩
 rintro (e | e)
 ·exact hb.2.2.2 e
 ·exact e hb.2.1
set_option maxHeartbeats 8000000 in
theorem update_x (p : At3) (r : Rn.R) (X base n l : Nat) (w : World) (hX : Apart3 w base X p r.d) (hB : Bd r) (hA : AfterIn r) (hn : n = r.d.length) (hl : r.ts.length = r.d.length) (hn0 : 0 < n) (hl2 : l = r.sg.length) (hw : boxR w X p n r.st n l) (h : Own3 w base p r) :
  Calls Tryz.prog 79 #[.pointer (some ⟨X, 0, none⟩)] w (UpdPost w base X p (Rn.upd r) n l) := by
 obtain ⟨g, hT, hg, -⟩ := h.at0 (by omega)
 obtain ⟨A, ca, T, ct, S, cs⟩ := p
 dsimp only at hT
 subst hT
 have HB := Lib.hid hB
 have HA := Lib.hid hA
 have HN := Lib.hid hn
 have HL := Lib.hid hl
 have HL2 := Lib.hid hl2
 have GB := Lib.hid hg
 have HX := Lib.hid hX
 have U : Hid (Rn.upd r = ⟨r.d, if Rn.allDone r.ts = true then 1 else r.st, List.zipWith (Rn.upT r.ts r.sg) r.d r.ts, r.sg⟩) := Lib.hid rfl
 generalize Rn.upd r = r2 at *
 have W0 := Lib.hid hw
 have O0 := Lib.hid h
 have hn9 : n ≤ 1100 := by rw [hn]; exact hB.d
 have SZ := Lib.hid (size_p ⟨A, ca, some ⟨g, 0, none⟩, ct, S, cs⟩ n r.st l)
 obtain ⟨⟨x0, x1, x2, x3⟩, -⟩ := obj4 hw
 clear hB hA hn hl hl2 hX hw h hg
 go_enter Tryz.func79, Tryz.ntmps79
 go_wp2_with fail
 (with_reducible refine (SZ.out _).mono ?_); rintro e W1 ⟨rfl, b1⟩
 have BX1 : Hid (boxR W1 X ⟨A, ca, some ⟨g, 0, none⟩, ct, S, cs⟩ n r.st n l) := Lib.hid (W0.out.on b1.out)
 have O1 : Hid (Own3 W1 base ⟨A, ca, some ⟨g, 0, none⟩, ct, S, cs⟩ r) := Lib.hid (O0.out.grew b1.out)
 have N1 : Hid (Only (fun b => b = X ∨ ¬ Off b (some ⟨g, 0, none⟩)) w W1) := Lib.hid (Only.of b1.out)
 clear x0 x1 x2 x3 W0 O0 b1 SZ
 go_wp2_with fail
 go_loopw [2, 9] (fun bv iv wr => ∃ (k : Nat) (bl : Bool) (us : List Rn.Tk), k ≤ n ∧ iv = .int .i64 k ∧ bv = .bool bl ∧ Hid (UpTo r us k) ∧ Hid (LeftTo us bl k) ∧
  Hid (boxR wr X ⟨A, ca, some ⟨g, 0, none⟩, ct, S, cs⟩ n r.st n l) ∧ Hid (Own3 wr base ⟨A, ca, some ⟨g, 0, none⟩, ct, S, cs⟩ ⟨r.d, r.st, us, r.sg⟩) ∧ Hid (Only (fun b => b = X ∨ ¬ Off b (some ⟨g, 0, none⟩)) w wr)) (fun _ iv _ => n - (intOf iv).toNat)
 case atStart => exact ⟨0, false, r.ts, Nat.zero_le _, rfl, rfl, Lib.hid (UpTo.start r), Lib.hid ⟨fun _ j hj => by omega, fun _ => rfl⟩, BX1, O1, N1⟩
 case round =>
  obtain ⟨k, bl, us, hk, rfl, rfl, HU, HF, HW, HO, HY⟩ := hrel
  have hUL : us.length = n := by rw [HU.out.len, HL.out, ← HN.out]
  obtain ⟨⟨x0, x1, x2, x3⟩, xf0, xf1, xf2, xf3⟩ := obj4 HW.out
  by_cases hlt : k < n
  ·have hlt' : (k : Int) < (n : Int) := by omega
   have hku : Hid (k < us.length) := Lib.hid (by rw [hUL]; exact hlt)
   have hkd : Hid (k < r.d.length) := Lib.hid (by rw [← HN.out]; exact hlt)
   have hkt : Hid (k < r.ts.length) := Lib.hid (by rw [HL.out]; exact hkd.out)
   obtain ⟨⟨c0, c1, c2, c3⟩, f0, f1, f2, f3⟩ := HO.out.tk rfl hku.out
   have EK := Lib.hid (HU.out.old k (Nat.le_refl k))
   have TI : Hid (tkIn (us.getD k Rn.t0)) := Lib.hid (HO.out.ti _ (by rw [getD_at hku.out]; exact List.getElem_mem _))
   have UT : Hid (Rn.upT r.ts r.sg (r.d.getD k tz) (r.ts.getD k Rn.t0) = if (us.getD k Rn.t0).ph = 0 ∧ Rn.free r.ts r.sg (r.d.getD k tz) = true then ⟨1, (us.getD k Rn.t0).tr, (us.getD k Rn.t0).un, (us.getD k Rn.t0).da⟩ else us.getD k Rn.t0) := Lib.hid (by rw [EK.out]; rfl)
   have MS : Hid (∀ W, Below wr.heap.size wr W → Calls Tryz.prog 105 #[.agg #[.slice A n ca, .int .i64 r.st, .slice (some ⟨g, 0, none⟩) n ct, .slice S l cs], .int .i64 (k : Int)] W (BoolG W (Rn.free r.ts r.sg (r.d.getD k tz)))) := Lib.hid fun W hW => by
    have hb : Bd (⟨r.d, r.st, us, r.sg⟩ : Rn.R) := ⟨HB.out.d, HB.out.a, by show us.length ≤ 1100; omega, HB.out.s, HB.out.z⟩
    have ha : AfterIn (⟨r.d, r.st, us, r.sg⟩ : Rn.R) := fun i hi a ha => by show 0 ≤ a ∧ a < (us.length : Int); have := HA.out i hi a ha; rw [HU.out.len]; exact this
    have := mayStart_p ⟨A, ca, some ⟨g, 0, none⟩, ct, S, cs⟩ ⟨r.d, r.st, us, r.sg⟩ hb k hkd.out ha W _ (HO.out.runO.on hW)
    unfold rv at this
    dsimp only at this
    rw [HU.out.free, ← getD_at (d := tz) hkd.out, hUL, ← HN.out, ← HL2.out] at this
    exact this
   generalize hkk : us.getD k Rn.t0 = kk at *
   have KK := Lib.hid hkk
   clear hkk
   by_cases h0 : kk.ph = 0
   ·rw [h0] at c0
    cases hf : Rn.free r.ts r.sg (r.d.getD k tz) with
    | true =>
     rw [hf] at MS UT
     have UE : Hid (Rn.upT r.ts r.sg (r.d.getD k tz) (r.ts.getD k Rn.t0) = ⟨1, kk.tr, kk.un, kk.da⟩) := Lib.hid (by rw [UT.out, if_pos ⟨h0, rfl⟩])
     clear UT h0 hf
     go_wp2_with fail
     (with_reducible refine (MS.out _ (Below.refl _ _)).mono ?_); rintro e W5 ⟨rfl, b5⟩
     have HW5 : Hid (boxR W5 X ⟨A, ca, some ⟨g, 0, none⟩, ct, S, cs⟩ n r.st n l) := Lib.hid (HW.out.on b5.out)
     have HO5 : Hid (Own3 W5 base ⟨A, ca, some ⟨g, 0, none⟩, ct, S, cs⟩ ⟨r.d, r.st, us, r.sg⟩) := Lib.hid (HO.out.grew b5.out)
     have HY5 : Hid (Only (fun b => b = X ∨ ¬ Off b (some ⟨g, 0, none⟩)) w W5) := Lib.hid (HY.out.trans (Only.of b5.out) fun i hi => .inl hi)
     clear c0 c1 c2 c3 f0 f1 f2 f3 x0 x1 x2 x3 xf0 xf1 xf2 xf3 HW HO HY MS
     obtain ⟨⟨c0, c1, c2, c3⟩, f0, f1, f2, f3⟩ := HO5.out.tk rfl hku.out
     obtain ⟨W6, hW6⟩ : ∃ W6, W6 = W5.setCell ⟨g, k * 4, none⟩ (.int .i64 1) := ⟨_, rfl⟩
     have O6 : Hid (Own3 W6 base ⟨A, ca, some ⟨g, 0, none⟩, ct, S, cs⟩ ⟨r.d, r.st, us.set k ⟨1, kk.tr, kk.un, kk.da⟩, r.sg⟩) := Lib.hid (by rw [hW6]; exact HO5.out.putT rfl hku.out (j := 0) (by decide) rfl ⟨1, kk.tr, kk.un, kk.da⟩ ⟨⟨by show (-9223372036854775808 : Int) ≤ 1; decide, by show (1 : Int) ≤ 9223372036854775807; decide⟩, TI.out.2⟩ (by show (tkV (us.getD k Rn.t0)).set 0 _ = _; rw [KK.out]; rfl) r.st)
     have Y6 : Hid (Only (fun b => b = X ∨ ¬ Off b (some ⟨g, 0, none⟩)) w W6) := Lib.hid (by rw [hW6]; exact HY5.out.trans (Only.set _ (k * 4) W5 _ (.inr (not_off rfl))) fun i hi => .inl hi)
     have B6 : Hid (boxR W6 X ⟨A, ca, some ⟨g, 0, none⟩, ct, S, cs⟩ n r.st n l) := Lib.hid (by rw [hW6]; exact (Below.heap_setCell _ _ _ _ (by show X ≠ g; exact HX.out.2.1 _ rfl |>.symm)).trans HW5.out)
     go_upto_region 7 with (fail)
     rw [← hW6]
     clear hW6 c0 c1 c2 c3 f0 f1 f2 f3 HO5 HY5 HW5
     have GK : (us.set k ⟨1, kk.tr, kk.un, kk.da⟩).getD k Rn.t0 = ⟨1, kk.tr, kk.un, kk.da⟩ := by rw [Rn.getD_set hku.out, if_pos rfl]
     obtain ⟨⟨c0, c1, c2, c3⟩, -⟩ := O6.out.tk rfl (k := k) (by show k < (us.set k _).length; rw [List.length_set]; exact hku.out)
     dsimp only at c0 c1 c2 c3
     rw [GK] at c0 c1 c2 c3
     have LF : Hid (LeftTo (us.set k ⟨1, kk.tr, kk.un, kk.da⟩) true (k + 1)) := Lib.hid (HF.out.next (fun j hj => by rw [Rn.getD_set hku.out, if_neg (by omega)]) (by rw [GK]; cases bl <;> rfl))
     have UP : Hid (UpTo r (us.set k ⟨1, kk.tr, kk.un, kk.da⟩) (k + 1)) := Lib.hid (by have := HU.out.set hkt.out; rwa [UE.out] at this)
     clear GK
     cases bl with
     | true =>
      go_wp2
      go_roundw
      case rel => exact ⟨k + 1, true, _, by omega, by go_num, rfl, UP, LF, B6, O6, Y6⟩
      case measure => simp [intOf]; omega
     | false =>
      go_wp2
      go_roundw
      case rel => exact ⟨k + 1, true, _, by omega, by go_num, rfl, UP, LF, B6, O6, Y6⟩
      case measure => simp [intOf]; omega
    | false =>
     rw [hf] at MS UT
     have UP : Hid (UpTo r us (k + 1)) := Lib.hid (HU.out.skip (by rw [UT.out, if_neg (fun h => by cases h.2), EK.out]))
     have LF : Hid (LeftTo us true (k + 1)) := Lib.hid (HF.out.next (fun _ _ => rfl) (by rw [KK.out, h0]; cases bl <;> rfl))
     clear UT h0 hf
     go_wp2_with fail
     (with_reducible refine (MS.out _ (Below.refl _ _)).mono ?_); rintro e W5 ⟨rfl, b5⟩
     have HW5 : Hid (boxR W5 X ⟨A, ca, some ⟨g, 0, none⟩, ct, S, cs⟩ n r.st n l) := Lib.hid (HW.out.on b5.out)
     have HO5 : Hid (Own3 W5 base ⟨A, ca, some ⟨g, 0, none⟩, ct, S, cs⟩ ⟨r.d, r.st, us, r.sg⟩) := Lib.hid (HO.out.grew b5.out)
     have HY5 : Hid (Only (fun b => b = X ∨ ¬ Off b (some ⟨g, 0, none⟩)) w W5) := Lib.hid (HY.out.trans (Only.of b5.out) fun i hi => .inl hi)
     clear c1 c2 c3 f0 f1 f2 f3 x0 x1 x2 x3 xf0 xf1 xf2 xf3 HW HO HY MS
     have c5 := (b5.out.cell (p := ⟨g, k * 4, none⟩) (block_lt c0)).trans c0
     clear c0
     cases bl with
     | true =>
      go_wp2
      go_roundw
      case rel => exact ⟨k + 1, true, _, by omega, by go_num, rfl, UP, LF, HW5, HO5, HY5⟩
      case measure => simp [intOf]; omega
     | false =>
      go_wp2
      go_roundw
      case rel => exact ⟨k + 1, true, _, by omega, by go_num, rfl, UP, LF, HW5, HO5, HY5⟩
      case measure => simp [intOf]; omega
   ·have UP : Hid (UpTo r us (k + 1)) := Lib.hid (HU.out.skip (by rw [UT.out, if_neg (fun h => h0 h.1), EK.out]))
    clear UT MS
    by_cases h3 : kk.ph = 3
    ·have LF : Hid (LeftTo us bl (k + 1)) := Lib.hid (HF.out.next (fun _ _ => rfl) (by rw [KK.out, h3]; cases bl <;> rfl))
     rw [h3] at c0
     clear h0 h3 f0 f1 f2 f3 xf0 xf1 xf2 xf3
     cases bl with
     | true =>
      go_wp2
      go_roundw
      case rel => exact ⟨k + 1, true, _, by omega, by go_num, rfl, UP, LF, HW, HO, HY⟩
      case measure => simp [intOf]; omega
     | false =>
      go_wp2
      go_roundw
      case rel => exact ⟨k + 1, false, _, by omega, by go_num, rfl, UP, LF, HW, HO, HY⟩
      case measure => simp [intOf]; omega
    ·have h3' : (kk.ph != 3) = true := by simpa using h3
     have LF : Hid (LeftTo us true (k + 1)) := Lib.hid (HF.out.next (fun _ _ => rfl) (by rw [KK.out, decide_eq_true h3]; cases bl <;> rfl))
     clear h3 f0 f1 f2 f3 xf0 xf1 xf2 xf3
     cases bl with
     | true =>
      go_wp2
      go_roundw
      case rel => exact ⟨k + 1, true, _, by omega, by go_num, rfl, UP, LF, HW, HO, HY⟩
      case measure => simp [intOf]; omega
     | false =>
      go_wp2
      go_roundw
      case rel => exact ⟨k + 1, true, _, by omega, by go_num, rfl, UP, LF, HW, HO, HY⟩
      case measure => simp [intOf]; omega
  ·obtain rfl : k = n := by omega
   have hge : ¬ (k : Int) < (k : Int) := by omega
   have LN : Hid (k = r.ts.length) := Lib.hid (by rw [HL.out, ← HN.out])
   have UE : Hid (us = r2.ts ∧ r2.d = r.d ∧ r2.sg = r.sg) := Lib.hid (by
    have h1 := HU.out
    rw [LN.out] at h1
    rw [U.out]
    exact ⟨h1.done HL.out, rfl, rfl⟩)
   have AD : Hid (bl = !Rn.allDone r.ts) := Lib.hid (by
    have h1 : bl = false ↔ Rn.allDone r.ts = true := by
     rw [← HU.out.like.done, Rn.allDone_iff, hUL]
     exact HF.out
    cases hb : bl
    ·rw [h1.1 hb]; rfl
    ·cases ha : Rn.allDone r.ts
     ·rfl
     ·rw [h1.2 ha] at hb; cases hb)
   have SE : Hid (r2.st = if bl = false then 1 else r.st) := Lib.hid (by rw [U.out, AD.out]; cases Rn.allDone r.ts <;> rfl)
   have OE : Hid (∀ s, Own3 wr base ⟨A, ca, some ⟨g, 0, none⟩, ct, S, cs⟩ ⟨r2.d, s, r2.ts, r2.sg⟩) := Lib.hid fun s => by
    rw [UE.out.2.1, UE.out.2.2, ← UE.out.1]
    exact HO.out.st s
   cases bl with
   | false =>
    go_wp2
    refine bodyPost_end (results_none rfl _ _ _) rfl ⟨rfl, ?_, ?_, ?_⟩
    ·refine Lib.hid ?_
     rw [SE.out]
     exact heap_setCell_same _ _ 1 _ _ _ HW.out
    ·exact Lib.hid ((OE.out r2.st).setX (show Apart3 w base X _ r2.d by rw [UE.out.2.1]; exact HX.out) HY.out 1 _)
    ·exact Lib.hid (HY.out.trans (Only.set _ 1 wr _ (.inl rfl)) fun i hi => .inl hi)
   | true =>
    go_wp2
    refine bodyPost_end (results_none rfl _ _ _) rfl ⟨rfl, ?_, Lib.hid (OE.out r2.st), HY⟩
    refine Lib.hid ?_
    rw [SE.out]
    exact HW.out
theorem update_p (p : At3) (r : Rn.R) (X base n l : Nat) (hX : X < base) (hB : Bd r) (hA : AfterIn r) (hn : n = r.d.length) (hl : r.ts.length = r.d.length) (hn0 : 0 < n) (hl2 : l = r.sg.length) (w : World) (hw : boxR w X p n r.st n l) (h : Own3 w base p r) :
  Calls Tryz.prog 79 #[.pointer (some ⟨X, 0, none⟩)] w (UpdPost w base X p (Rn.upd r) n l) := update_x p r X base n l w (Apart3.of h hX) hB hA hn hl hn0 hl2 hw h
end Go.Proofs.YtkbekojnmdgdgaaGreatDoor
/- RnCp -/
namespace Go.Proofs.YtkbekojnmdgdgaaGreatDoor
open Go.RowKit
set_option maxRecDepth 20000
theorem Own3.low {w : World} {b0 b1 : Nat} {p : At3} {r : Rn.R} (h : Own3 w b1 p r) (hb : b0 ≤ b1) : Own3 w b0 p r :=
 ⟨h.d.imp fun _ _ k => ⟨Nat.le_trans hb k.1, k.2⟩, h.dc, h.t.low hb, h.ti, h.s.low hb, h.ap⟩
def zeroR (w : World) (Z : Nat) : Prop := w.heap[Z]? = some (.cells #[.slice none 0 0, .int .i64 0, .slice none 0 0, .slice none 0 0] 41 (0, 0))
structure Cp (w W : World) (X Z base : Nat) (q : At3) (n : Nat) (st : Int) (m l : Nat) (r : Rn.R) : Prop where
 box : boxR W X q n st m l
 zero : zeroR W Z
 own : Own3 W base q r
 below : Below w.heap.size w W
 wx : w.heap.size ≤ X
 wz : w.heap.size ≤ Z
 xb : X < base
 zb : Z < base
 xz : X ≠ Z
structure Cq (w W : World) (X Z base : Nat) (p : At3) (n : Nat) (st : Int) (m l : Nat) : Prop where
 box : boxR W X p n st m l
 zero : zeroR W Z
 below : Below w.heap.size w W
 wx : w.heap.size ≤ X
 wz : w.heap.size ≤ Z
 xb : X < base
 zb : Z < base
 xz : X ≠ Z
 sz : base ≤ W.heap.size
theorem Cq.on {w W W' : World} {X Z base n m l : Nat} {st : Int} {p : At3} (h : Cq w W X Z base p n st m l) (hb : Below W.heap.size W W') : Cq w W' X Z base p n st m l :=
 ⟨(hb.block _ (lt_of_block h.box)).trans h.box, (hb.block _ (lt_of_block h.zero)).trans h.zero, h.below.trans (hb.mono h.below.size), h.wx, h.wz, h.xb, h.zb, h.xz, Nat.le_trans h.sz hb.size⟩
theorem Cq.copy {w W W2 : World} {X Z base n m l : Nat} {st : Int} {p q : At3} {r : Rn.R} (h : Cq w W X Z base p n st m l) (ho : Own3 W2 W.heap.size q r) (hb : Below W.heap.size W W2) :
  Cp w (S4 W2 X (.slice q.A n q.ca) (.int .i64 st) (.slice q.T m q.ct) (.slice q.S l q.cs)) X Z base q n st m l r := by
 have hX : W2.heap[X]? = _ := (hb.block _ (lt_of_block h.box)).trans h.box
 have hs := h.sz
 have hx := h.xb
 refine ⟨S4.at_ hX _ _ _ _, (S4.else_ _ _ _ _ _ _ (Ne.symm h.xz)).trans ((hb.block _ (lt_of_block h.zero)).trans h.zero), (ho.keep (Nat.le_of_eq (S4.size_ _ _ _ _ _ _).symm) fun b k _ => S4.else_ _ _ _ _ _ _ (by omega)).low h.sz, ?_, h.wx, h.wz, h.xb, h.zb, h.xz⟩
 exact S4.below (h.below.trans (hb.mono h.below.size)) h.wx _ _ _ _
theorem UpdPost.cp {w W W' : World} {X Z base n l m : Nat} {st : Int} {q : At3} {r r' : Rn.R} {e : Ending} (h : Cp w W X Z base q n st m l r) (hu : UpdPost W base X q r' n l e W') : e = .returned (.tuple #[]) ∧ Hid (Cp w W' X Z base q n r'.st n l r') := by
 obtain ⟨rfl, hb, ho, hy⟩ := hu
 have T0 : ∀ k, ¬ Off k q.T → base ≤ k := fun k hk => by
  rcases Nat.lt_or_ge k base with h1 | h1
  ·exact absurd (fun a ea e => by have := h.own.t.own a ea; omega) hk
  ·exact h1
 have hx := h.xb
 have hz := h.zb
 refine ⟨rfl, Lib.hid ⟨hb.out, (hy.out.block _ (lt_of_block h.zero) ?_).trans h.zero, ho.out, h.below.trans (hy.out.below h.below.size fun k hk => ?_), h.wx, h.wz, h.xb, h.zb, h.xz⟩⟩
 ·rintro (e | e)
  ·exact h.xz e.symm
  ·have := T0 _ e
   omega
 ·rcases hk with rfl | hk
  ·exact h.wx
  ·have := T0 _ hk
   have := h.wx
   omega
theorem Cp.on {w W W' : World} {X Z base n m l : Nat} {st : Int} {q : At3} {r : Rn.R} (h : Cp w W X Z base q n st m l r) (hb : Below W.heap.size W W') : Cp w W' X Z base q n st m l r :=
 ⟨(hb.block _ (lt_of_block h.box)).trans h.box, (hb.block _ (lt_of_block h.zero)).trans h.zero, h.own.grew hb, h.below.trans (hb.mono h.below.size), h.wx, h.wz, h.xb, h.zb, h.xz⟩
theorem Cp.put {w W W' : World} {X Z base n m l : Nat} {st : Int} {q : At3} {r r' : Rn.R} (h : Cp w W X Z base q n st m l r) (ho : Own3 W' base q r') (hs : W'.os = W.os ∧ W'.tape = W.tape ∧ W'.output = W.output ∧ W.heap.size ≤ W'.heap.size) (hk : ∀ b, b < base → W'.heap[b]? = W.heap[b]?) : Cp w W' X Z base q n st m l r' := by
 have hx := h.wx
 have hx2 := h.xb
 exact ⟨(hk _ h.xb).trans h.box, (hk _ h.zb).trans h.zero, ho, ⟨hs.1.trans h.below.os, hs.2.1.trans h.below.tape, hs.2.2.1.trans h.below.output, Nat.le_trans h.below.size hs.2.2.2, fun k hk2 => (hk k (by omega)).trans (h.below.block k hk2)⟩, h.wx, h.wz, h.xb, h.zb, h.xz⟩
theorem Cp.ans {w W : World} {X Z base n m l : Nat} {st : Int} {q : At3} {r : Rn.R} (h : Cp w W X Z base q n st m l r) (u v x y : Value) : RunO (S4 W Z u v x y) (since w) q r ∧ Below w.heap.size w (S4 W Z u v x y) := by
 have hz := h.zb
 have hx := h.wx
 have hx2 := h.xb
 refine ⟨(h.own.runO.keep (Nat.le_of_eq (S4.size_ _ _ _ _ _ _).symm) fun b k _ => S4.else_ _ _ _ _ _ _ (by have : base ≤ b := k; omega)).imp fun b _ k => ?_, S4.below h.below h.wz _ _ _ _⟩
 show w.heap.size ≤ b
 have : base ≤ b := k
 omega
theorem Cp.st {w W : World} {X Z base n m l : Nat} {st : Int} {q : At3} {r : Rn.R} (h : Cp w W X Z base q n st m l r) (s2 : Int) (s : Int) : Cp w (W.setCell ⟨X, 1, none⟩ (.int .i64 s2)) X Z base q n s2 m l ⟨r.d, s, r.ts, r.sg⟩ := by
 have hx := h.xb
 refine ⟨heap_setCell_same _ _ 1 _ _ _ h.box, (Below.heap_setCell _ _ _ _ (Ne.symm h.xz)).trans h.zero, ((h.own.st s).keep (by simp [World.setCell]) fun b k _ => Below.heap_setCell _ _ _ _ (by show b ≠ X; omega)), h.below.setCell (p := ⟨X, 1, none⟩) h.wx _, h.wx, h.wz, h.xb, h.zb, h.xz⟩
def CopG (W : World) (n : Nat) (st : Int) (m l : Nat) (r : Rn.R) (e : Ending) (w' : World) : Prop :=
 ∃ q : At3, e = .returned (.agg #[.slice q.A n q.ca, .int .i64 st, .slice q.T m q.ct, .slice q.S l q.cs]) ∧ Hid (Own3 w' W.heap.size q r) ∧ Hid (Below W.heap.size W w')
theorem copied_q (p : At3) (r : Rn.R) (hB : Bd r) (w W : World) (O : Nat → Prop) (h : RunO w O p r) (hb : Below w.heap.size w W) (n : Nat) (st : Int) (m l : Nat) (hn : n = r.d.length) (hs : st = r.st) (hm : m = r.ts.length) (hl : l = r.sg.length) :
  Calls Tryz.prog 78 #[.agg #[.slice p.A n p.ca, .int .i64 st, .slice p.T m p.ct, .slice p.S l p.cs]] W (CopG W n st m l r) := by
 subst hn hs hm hl
 exact copied_p p r hB W O (h.on hb)
theorem Df.Ok.pos {d : Df.D} (h : Df.Ok d) : 0 < d.length := by
 have := h.n1
 omega
theorem box2 (w : World) (X Y : Obj) : Below w.heap.size w ((w.alloc X).alloc Y) := ((Below.refl _ _).alloc (Nat.le_refl _) _).alloc (by simp) _
theorem S4.lit (w : World) (g : Nat) (p q r s : Value) : (((w.setCell ⟨g, 0, none⟩ p).setCell ⟨g, 1, none⟩ q).setCell ⟨g, 2, none⟩ r).setCell ⟨g, 3, none⟩ s = S4 w g p q r s := rfl
theorem err_ans {w W : World} {Z : Nat} (e : Int) (hb : Below w.heap.size w W) (wz : w.heap.size ≤ Z) : RunG w (Rn.r0, e) (.returned (.tuple #[.agg #[.slice none 0 0, .int .i64 0, .slice none 0 0, .slice none 0 0], .int .i64 e])) (S4 W Z (.slice none 0 0) (.int .i64 0) (.slice none 0 0) (.slice none 0 0)) :=
 ⟨⟨none, 0, none, 0, none, 0⟩, rfl, Lib.hid (run0_o _ _), Lib.hid (S4.below hb wz _ _ _ _)⟩
theorem Cq.new (w : World) (p : At3) (n m l : Nat) (st : Int) :
  Cq w ((w.alloc (.cells #[.slice p.A n p.ca, .int .i64 st, .slice p.T m p.ct, .slice p.S l p.cs] 41)).alloc (.cells #[.slice none 0 0, .int .i64 0, .slice none 0 0, .slice none 0 0] 41)) w.heap.size (w.heap.size + 1) (w.heap.size + 1 + 1) p n st m l :=
 ⟨box0' _ _ _, box1 _ _ _, box2 _ _ _, Nat.le_refl _, by omega, by omega, by omega, by omega, by simp⟩
theorem Own3.put012 {w : World} {base g : Nat} {p : At3} {r : Rn.R} (h : Own3 w base p r) (hT : p.T = some ⟨g, 0, none⟩) {i : Nat} (hi : i < r.ts.length) {kk : Rn.Tk} (hk : r.ts.getD i Rn.t0 = kk) (ph tr un : Int) (hp : inI ph) (ht : inI tr) (hu : inI un) (st : Int) :
  Own3 (((w.setCell ⟨g, i * 4, none⟩ (.int .i64 ph)).setCell ⟨g, i * 4 + 1, none⟩ (.int .i64 tr)).setCell ⟨g, i * 4 + 2, none⟩ (.int .i64 un)) base p ⟨r.d, st, r.ts.set i ⟨ph, tr, un, kk.da⟩, r.sg⟩ := by
 have KI : tkIn kk := by rw [← hk, getD_at hi]; exact h.ti _ (List.getElem_mem hi)
 have h1 := h.putT hT hi (j := 0) (by decide) (u := .int .i64 ph) rfl ⟨ph, kk.tr, kk.un, kk.da⟩ ⟨hp, KI.2⟩ (by rw [hk]; rfl) st
 have h2 := h1.putT hT (k := i) (by show i < (r.ts.set i _).length; rw [List.length_set]; exact hi) (j := 1) (by decide) (u := .int .i64 tr) rfl ⟨ph, tr, kk.un, kk.da⟩ ⟨hp, ht, KI.2.2⟩ (by
  show (tkV ((r.ts.set i _).getD i Rn.t0)).set 1 _ = _
  rw [Rn.getD_set hi, if_pos rfl]
  rfl) st
 have h3 := h2.putT hT (k := i) (by show i < ((r.ts.set i _).set i _).length; rw [List.length_set, List.length_set]; exact hi) (j := 2) (by decide) (u := .int .i64 un) rfl ⟨ph, tr, un, kk.da⟩ ⟨hp, ht, hu⟩ (by
  show (tkV (((r.ts.set i _).set i _).getD i Rn.t0)).set 2 _ = _
  rw [Rn.getD_set (by rw [List.length_set]; exact hi), if_pos rfl]
  rfl) st
 have e : (((r.ts.set i ⟨ph, kk.tr, kk.un, kk.da⟩).set i ⟨ph, tr, kk.un, kk.da⟩).set i ⟨ph, tr, un, kk.da⟩) = r.ts.set i ⟨ph, tr, un, kk.da⟩ := by rw [List.set_set, List.set_set]
 rw [← e]
 exact h3
theorem Own3.put023 {w : World} {base g : Nat} {p : At3} {r : Rn.R} (h : Own3 w base p r) (hT : p.T = some ⟨g, 0, none⟩) {i : Nat} (hi : i < r.ts.length) {kk : Rn.Tk} (hk : r.ts.getD i Rn.t0 = kk) (ph un : Int) (da : Tx.T) (hp : inI ph) (hu : inI un) (st : Int) :
  Own3 (((w.setCell ⟨g, i * 4, none⟩ (.int .i64 ph)).setCell ⟨g, i * 4 + 2, none⟩ (.int .i64 un)).setCell ⟨g, i * 4 + 3, none⟩ (.string (str da))) base p ⟨r.d, st, r.ts.set i ⟨ph, kk.tr, un, da⟩, r.sg⟩ := by
 have KI : tkIn kk := by rw [← hk, getD_at hi]; exact h.ti _ (List.getElem_mem hi)
 have h1 := h.putT hT hi (j := 0) (by decide) (u := .int .i64 ph) rfl ⟨ph, kk.tr, kk.un, kk.da⟩ ⟨hp, KI.2⟩ (by rw [hk]; rfl) st
 have h2 := h1.putT hT (k := i) (by show i < (r.ts.set i _).length; rw [List.length_set]; exact hi) (j := 2) (by decide) (u := .int .i64 un) rfl ⟨ph, kk.tr, un, kk.da⟩ ⟨hp, KI.2.1, hu⟩ (by
  show (tkV ((r.ts.set i _).getD i Rn.t0)).set 2 _ = _
  rw [Rn.getD_set hi, if_pos rfl]
  rfl) st
 have h3 := h2.putT hT (k := i) (by show i < ((r.ts.set i _).set i _).length; rw [List.length_set, List.length_set]; exact hi) (j := 3) (by decide) (u := .string (str da)) rfl ⟨ph, kk.tr, un, da⟩ ⟨hp, KI.2.1, hu⟩ (by
  show (tkV (((r.ts.set i _).set i _).getD i Rn.t0)).set 3 _ = _
  rw [Rn.getD_set (by rw [List.length_set]; exact hi), if_pos rfl]
  rfl) st
 have e : (((r.ts.set i ⟨ph, kk.tr, kk.un, kk.da⟩).set i ⟨ph, kk.tr, un, kk.da⟩).set i ⟨ph, kk.tr, un, da⟩) = r.ts.set i ⟨ph, kk.tr, un, da⟩ := by rw [List.set_set, List.set_set]
 rw [← e]
 exact h3
theorem Cp.sets {w W W' : World} {X Z base n m l g o1 o2 o3 : Nat} {v1 v2 v3 : Value} {st : Int} {q : At3} {r r' : Rn.R} (h : Cp w W X Z base q n st m l r) (hg : base ≤ g) (hW : W' = ((W.setCell ⟨g, o1, none⟩ v1).setCell ⟨g, o2, none⟩ v2).setCell ⟨g, o3, none⟩ v3) (ho : Own3 W' base q r') : Cp w W' X Z base q n st m l r' := by
 refine h.put ho ?_ fun b hb => ?_
 ·rw [hW]
  exact ⟨rfl, rfl, rfl, by simp [World.setCell]⟩
 ·rw [hW]
  exact (Below.heap_setCell _ _ _ _ (by show b ≠ g; omega)).trans ((Below.heap_setCell _ _ _ _ (by show b ≠ g; omega)).trans (Below.heap_setCell _ _ _ _ (by show b ≠ g; omega)))
end Go.Proofs.YtkbekojnmdgdgaaGreatDoor
/- RnNewK -/
namespace Go.Proofs.YtkbekojnmdgdgaaGreatDoor
open Go.RowKit
set_option maxRecDepth 20000
theorem infoT4 : (Tryz.prog.info? 47).map (fun i => (i.zero, i.size, i.bytes)) = some (some (.agg #[.int .i64 0, .int .i64 0, .int .i64 0, .string ⟨#[]⟩]), 4, 40) := by kernel_rfl
def zeroT : Array Value := #[.int .i64 0, .int .i64 0, .int .i64 0, .string ⟨#[]⟩]
theorem made_R4 (n : Nat) (hn : n ≤ 1000000) (W : World) : (Instr.makeSlice 38 (.int .i64 (n : Int)) (.int .i64 (n : Int))).run Tryz.prog W = .ok (.slice (some ⟨W.heap.size, 0, none⟩) n n) (W.alloc (.cells (madeCells zeroT (n * 4)) 47)) := by
 obtain ⟨i, hi, hz, hs, hy⟩ := info_parts infoT4
 have hr := run_make (P := Tryz.prog) W 38 47 i _ Tryz.underlying38 hi hz .i64 .i64 n n (by omega) (Int.le_refl _) (by rw [hy]; omega) (by omega)
 rw [hs, Int.toNat_natCast] at hr
 exact hr
theorem made_get (n j : Nat) (hj : j < n) : (madeCells zeroT n)[j]? = some (zeroT[j % 4]!) := by
 unfold madeCells
 rw [Array.getElem?_map, Array.getElem?_range]
 rw [if_pos hj]
 rfl
theorem tks_made {W : World} {g n : Nat} (h : W.heap[g]? = some (.cells (madeCells zeroT (n * 4)) 47 (0, 0))) : TksO W (fun _ => True) (some ⟨g, 0, none⟩) (List.replicate n Rn.t0) := by
 refine ⟨fun k hk => ?_, fun _ => ⟨g, 0, rfl, trivial, lt_of_block h, fun i hi => ?_⟩⟩
 ·rw [List.eq_of_mem_replicate hk]
  exact ⟨⟨by decide, by decide⟩, ⟨by decide, by decide⟩, ⟨by decide, by decide⟩⟩
 ·rw [List.length_replicate] at hi
  have e : (List.replicate n Rn.t0).getD i Rn.t0 = Rn.t0 := by
   rw [List.getD_eq_getElem?_getD, List.getElem?_replicate]
   rw [if_pos hi]
   rfl
  rw [e]
  have c : ∀ j, j < 4 → W.cell? ⟨g, 0 + i * 4 + j, none⟩ = some (zeroT[j]!) := fun j hj => by
   have h1 := made_get (n * 4) (i * 4 + j) (by omega)
   rw [show (i * 4 + j) % 4 = j by omega] at h1
   simp [World.cell?, h, h1]
  exact ⟨c 0 (by decide), c 1 (by decide), c 2 (by decide), c 3 (by decide)⟩
theorem Zs.zsO {w : World} {B : Nat} {A : Option Addr} {zs : List Int} (h : Zs w B A zs) (hB : B ≤ w.heap.size) : ZsO w (fun _ => True) A zs :=
 ⟨h.1, fun hn => by
  obtain ⟨b, off, e, hb, hc⟩ := h.2 hn
  exact ⟨b, off, e, trivial, Nat.lt_of_lt_of_le hb hB, fun i hi => by
   show w.cell? ⟨b, off + i * 1 + 0, none⟩ = _
   rw [Nat.mul_one, Nat.add_zero]
   exact hc i hi⟩⟩
theorem DefIn.defO {w : World} {A : Option Addr} {d : Df.D} (h : DefIn w w.heap.size A d) : DefO w (fun _ => True) A d :=
 ⟨h.1, fun hn => by
  obtain ⟨b, off, e, hb, hc⟩ := h.2 hn
  refine ⟨b, off, e, trivial, hb, fun i hi => ?_⟩
  obtain ⟨A2, c2, h0, h1, h2, h3, h4, h5, h6, h7⟩ := hc i hi
  rw [getD_at hi]
  exact ⟨A2, c2, h0, h1, h2, h3, h4, h5, h6.zsO (Nat.le_refl _), h7⟩⟩
end Go.Proofs.YtkbekojnmdgdgaaGreatDoor
/- RnLease -/
namespace Go.Proofs.YtkbekojnmdgdgaaGreatDoor
open Go.RowKit
set_option maxRecDepth 20000
set_option maxHeartbeats 2000000 in
theorem lease_p (p : At3) (r : Rn.R) (hI : Rn.Inv r) (w : World) (O : Nat → Prop) (h : RunO w O p r) (a x now : Int) (ha : inI a) (hx : inI x) (h0 : 0 ≤ now) (h1 : now ≤ Rn.tickMax) : Calls Tryz.prog 82 #[rv p r, .int .i64 a, .int .i64 x, .int .i64 now] w (RunG w (Rn.leaseV r a x now)) := by
 have V : Hid (Rn.leaseV r a x now = if Rn.leaseE r a x = 0 then (Rn.leaseS r a x now, 0) else (Rn.r0, Rn.leaseE r a x)) := Lib.hid rfl
 have E : Hid (Rn.leaseE r a x = if Rn.mayE r a ≠ 0 then Rn.mayE r a else if (Rn.tk r a).ph ≠ 1 then 4 else if x ≠ (Rn.tk r a).tr + 1 then 8 else 0) := Lib.hid rfl
 have MO : Hid (Rn.mayE r a = 0 → 0 ≤ a ∧ a < (r.ts.length : Int) ∧ r.st = 0) := Lib.hid Rn.mayE_ok
 have RF := Lib.hid (refusal_p p r hI.len a ha)
 have TK : Hid (Rn.tk r a = r.ts.getD a.toNat Rn.t0) := Lib.hid rfl
 have SS : Hid (Rn.leaseS r a x now = ⟨r.d, r.st, r.ts.set a.toNat ⟨2, x, now + (Rn.df r a).wait, []⟩, r.sg⟩) := Lib.hid rfl
 have DF : Hid (Rn.df r a = r.d.getD a.toNat Rn.tz) := Lib.hid rfl
 generalize Rn.leaseV r a x now = v at *
 generalize Rn.leaseE r a x = ee at *
 generalize Rn.leaseS r a x now = r2 at *
 generalize Rn.mayE r a = u at *
 generalize Rn.tk r a = kk at *
 generalize Rn.df r a = t at *
 have h1' : now ≤ 2305843009213693952 := h1
 clear h1
 obtain ⟨ha0, ha1⟩ := ha
 obtain ⟨hx0, hx1⟩ := hx
 have CP : Hid (∀ W n l, Below w.heap.size w W → n = r.d.length → l = r.sg.length → Calls Tryz.prog 78 #[.agg #[.slice p.A n p.ca, .int .i64 r.st, .slice p.T n p.ct, .slice p.S l p.cs]] W (CopG W n r.st n l r)) :=
  Lib.hid fun W n l hb hn hl => copied_q p r (Bd.of hI.toPre) w W O h hb n r.st n l hn rfl (hn.trans hI.len.symm) hl
 have BD := Lib.hid (Bd.of hI.toPre)
 have PI := Lib.hid hI.toPre
 have AI := Lib.hid (AfterIn.of hI.toPre)
 have H0 := Lib.hid h
 obtain ⟨n, hn⟩ : ∃ n, n = r.d.length := ⟨_, rfl⟩
 obtain ⟨l, hl⟩ : ∃ l, l = r.sg.length := ⟨_, rfl⟩
 have HM : Hid (r.ts.length = n) := Lib.hid (hI.len.trans hn.symm)
 have HN := Lib.hid (⟨hn, hl⟩ : n = r.d.length ∧ l = r.sg.length)
 have n9 : n ≤ 1100 := by rw [hn]; exact BD.out.d
 unfold rv
 rw [hI.len, ← hn, ← hl]
 clear hn hl hI h
 obtain ⟨W0, hW0⟩ : ∃ W0, W0 = (w.alloc (.cells #[.slice p.A n p.ca, .int .i64 r.st, .slice p.T n p.ct, .slice p.S l p.cs] 41)).alloc (.cells #[.slice none 0 0, .int .i64 0, .slice none 0 0, .slice none 0 0] 41) := ⟨_, rfl⟩
 have Q0 : Hid (Cq w W0 w.heap.size (w.heap.size + 1) (w.heap.size + 1 + 1) p n r.st n l) := Lib.hid (by rw [hW0]; exact Cq.new w p n n l r.st)
 have B0 : Hid (Below w.heap.size w W0) := Lib.hid Q0.out.below
 unfold rv at RF
 rw [HM.out, ← HN.out.1, ← HN.out.2] at RF
 rw [HM.out] at MO
 go_enter Tryz.func82, Tryz.ntmps82
 obtain ⟨⟨x0, x1, x2, x3⟩, -⟩ := obj4 Q0.out.box
 go_upto_region 1 with (fail)
 rw [← hW0]
 clear hW0
 go_wp2_with fail
 (with_reducible refine (RF.out _).mono ?_); rintro e W1 ⟨rfl, b1⟩
 have Q1 := Lib.hid (Q0.out.on b1.out)
 clear x0 x1 x2 x3
 obtain ⟨⟨x0, x1, x2, x3⟩, -⟩ := obj4 Q1.out.box
 by_cases hu : u = 0
 ·obtain ⟨a0, a1, s0⟩ := MO.out hu
  subst hu
  obtain ⟨i, hi⟩ : ∃ i : Nat, a = (i : Int) := ⟨a.toNat, by omega⟩
  subst hi
  rw [Int.toNat_natCast] at TK DF SS
  have hin : i < n := by omega
  have HD : Hid (i < r.ts.length) := Lib.hid (by rw [HM.out]; exact hin)
  have HE : Hid (i < r.d.length) := Lib.hid (by rw [← HN.out.1]; exact hin)
  have TI : Hid (tkIn kk) := Lib.hid (by rw [TK.out]; exact H0.out.t.1 _ (by rw [getD_at HD.out]; exact List.getElem_mem _))
  have TO : Hid (Rn.TkOk t kk) := Lib.hid (by
   have := PI.out.task i HE.out
   rw [← TK.out] at this
   rw [DF.out, getD_at HE.out]
   exact this)
  have NO : Hid (Df.numOk t = true) := Lib.hid (Df.Ok.nums PI.out.good t (by rw [DF.out, getD_at HE.out]; exact List.getElem_mem _))
  rw [s0] at Q0 Q1 x1 CP SS
  have R1 : Hid (ee = if kk.ph ≠ 1 then 4 else if x ≠ kk.tr + 1 then 8 else 0) := Lib.hid (by rw [E.out, if_neg (fun h => h rfl)])
  obtain ⟨b, off, k2, hpT, -, hk2, -, c0, c1, c2, c3⟩ := ((H0.out.on Q1.out.below).t).at_ HD.out
  obtain rfl : kk = k2 := by
   rw [TK.out, getD_at HD.out]
   have := hk2.out
   rw [List.getElem?_eq_getElem HD.out] at this
   exact Option.some.inj this
  rw [hpT] at x2
  clear hk2 E MO RF
  by_cases h1 : kk.ph = 1
  ·rw [h1] at c0
   have kt0 : 0 ≤ kk.tr := TO.out.tr0
   have kt1 : kk.tr ≤ 1000000 := by
    have h2 := TO.out.ready h1
    have h3 := NO.out
    unfold Df.numOk at h3
    rw [decide_eq_true_eq] at h3
    omega
   have DA : Hid (kk.da = []) := Lib.hid (TO.out.da (by rw [h1]; decide))
   by_cases h2 : x = kk.tr + 1
   ·have R : Hid (v = (r2, 0)) := Lib.hid (by rw [V.out, show ee = 0 by rw [R1.out, if_neg (fun h => h h1), if_neg (fun h => h h2)], if_pos rfl])
    clear R1 V h1
    subst h2
    rw [hpT] at CP
    go_wp2_with fail
    (with_reducible refine (CP.out W1 n l Q1.out.below HN.out.1 HN.out.2).mono ?_); rintro e W2 ⟨q, rfl, o2, b2⟩
    have C3 := Lib.hid (Q1.out.copy o2.out b2.out)
    clear x0 x1 x2 x3
    obtain ⟨⟨x0, x1, x2, x3⟩, f0, f1, f2, f3⟩ := obj4 (Q1.out.on b2.out).box
    go_upto_region 9 with (fail)
    rw [S4.lit]
    obtain ⟨W3, hW3⟩ : ∃ W3, W3 = S4 W2 w.heap.size (.slice q.A n q.ca) (.int .i64 0) (.slice q.T n q.ct) (.slice q.S l q.cs) := ⟨_, rfl⟩
    rw [← hW3] at C3 ⊢
    clear hW3 x0 x1 x2 x3 f0 f1 f2 f3
    obtain ⟨g, hT, hg, -⟩ := C3.out.own.at0 (by rw [HM.out]; omega)
    obtain ⟨b3, off3, A3, c3, t3, hA, -, ht3, -, -, nin, y0, y1, y2, y3, y4, y5⟩ := C3.out.own.d.at_ (i := i) HE.out
    obtain rfl : t = t3 := by
     rw [DF.out, getD_at HE.out]
     have := ht3.out
     rw [List.getElem?_eq_getElem HE.out] at this
     exact Option.some.inj this
    obtain ⟨⟨k0, k1, k2, k3⟩, m0, m1, m2, m3⟩ := C3.out.own.tk hT HD.out
    obtain ⟨⟨x0, x1, x2, x3⟩, -⟩ := obj4 C3.out.box
    rw [hT] at x2
    rw [hA] at x0
    have wt : 0 ≤ t.wait ∧ t.wait ≤ 1000000 := by
     have h3 := NO.out
     unfold Df.numOk at h3
     rw [decide_eq_true_eq] at h3
     omega
    obtain ⟨wt0, wt1⟩ := wt
    have O4 := C3.out.own.put012 hT HD.out TK.out.symm 2 (kk.tr + 1) (now + t.wait) ⟨by omega, by omega⟩ ⟨by omega, by omega⟩ ⟨by omega, by omega⟩ 0
    have C4 := Lib.hid (C3.out.sets (r' := r2) hg rfl (by rw [SS.out, show ([] : Tx.T) = kk.da from DA.out.symm]; exact O4))
    clear O4
    obtain ⟨W4, hW4⟩ : ∃ W4, W4 = ((W3.setCell ⟨g, i * 4, none⟩ (.int .i64 2)).setCell ⟨g, i * 4 + 1, none⟩ (.int .i64 (kk.tr + 1))).setCell ⟨g, i * 4 + 2, none⟩ (.int .i64 (now + t.wait)) := ⟨_, rfl⟩
    rw [← hW4] at C4
    go_upto_region 11 with (fail)
    rw [← hW4]
    clear hW4 x0 x1 x2 x3 y0 y1 y2 y3 y4 y5 k0 k1 k2 k3 m0 m1 m2 m3 c0 c1 c2 c3 hT hA
    obtain ⟨⟨x0, x1, x2, x3⟩, -⟩ := obj4 C4.out.box
    obtain ⟨⟨z0, z1, z2, z3⟩, g0, g1, g2, g3⟩ := obj4 C4.out.zero
    go_wp2
    rw [S4.lit]
    obtain ⟨⟨d0, d1, d2, d3⟩, -⟩ := obj4 (S4.at_ C4.out.zero (.slice q.A n q.ca) (.int .i64 0) (.slice q.T n q.ct) (.slice q.S l q.cs))
    have A5 := C4.out.ans (.slice q.A n q.ca) (.int .i64 0) (.slice q.T n q.ct) (.slice q.S l q.cs)
    refine bodyPost_ret (v := .tuple #[.agg #[.slice q.A n q.ca, .int .i64 0, .slice q.T n q.ct, .slice q.S l q.cs], .int .i64 0]) (by simp [results, Tryz.results82, go_sem, d0, d1, d2, d3]) rfl ?_
    rw [R.out]
    refine ⟨q, ?_, Lib.hid A5.1, Lib.hid A5.2⟩
    rw [SS.out]
    unfold rv
    dsimp only
    rw [List.length_set, HM.out, ← HN.out.1, ← HN.out.2]
   ·have R : Hid (v = (Rn.r0, 8)) := Lib.hid (by rw [V.out, show ee = 8 by rw [R1.out, if_neg (fun h => h h1), if_pos h2], if_neg (by decide)])
    have h2' : (x != kk.tr + 1) = true := by simpa using h2
    clear R1 V h1
    obtain ⟨⟨z0, z1, z2, z3⟩, g0, g1, g2, g3⟩ := obj4 Q1.out.zero
    go_wp2
    rw [S4.lit]
    obtain ⟨⟨d0, d1, d2, d3⟩, -⟩ := obj4 (S4.at_ Q1.out.zero (.slice none 0 0) (.int .i64 0) (.slice none 0 0) (.slice none 0 0))
    refine bodyPost_ret (v := .tuple #[.agg #[.slice none 0 0, .int .i64 0, .slice none 0 0, .slice none 0 0], .int .i64 8]) (by simp [results, Tryz.results82, go_sem, d0, d1, d2, d3]) rfl ?_
    rw [R.out]
    exact err_ans 8 Q1.out.below Q1.out.wz
  ·have R : Hid (v = (Rn.r0, 4)) := Lib.hid (by rw [V.out, show ee = 4 by rw [R1.out, if_pos h1], if_neg (by decide)])
   have h1' : (kk.ph != 1) = true := by simpa using h1
   clear R1 V
   obtain ⟨⟨z0, z1, z2, z3⟩, g0, g1, g2, g3⟩ := obj4 Q1.out.zero
   go_wp2
   rw [S4.lit]
   obtain ⟨⟨d0, d1, d2, d3⟩, -⟩ := obj4 (S4.at_ Q1.out.zero (.slice none 0 0) (.int .i64 0) (.slice none 0 0) (.slice none 0 0))
   refine bodyPost_ret (v := .tuple #[.agg #[.slice none 0 0, .int .i64 0, .slice none 0 0, .slice none 0 0], .int .i64 4]) (by simp [results, Tryz.results82, go_sem, d0, d1, d2, d3]) rfl ?_
   rw [R.out]
   exact err_ans 4 Q1.out.below Q1.out.wz
 ·have R : Hid (v = (Rn.r0, u)) := Lib.hid (by rw [V.out, show ee = u by rw [E.out, if_pos hu], if_neg hu])
  have hu' : (u != 0) = true := by simpa using hu
  clear E MO V
  obtain ⟨⟨z0, z1, z2, z3⟩, g0, g1, g2, g3⟩ := obj4 Q1.out.zero
  go_wp2
  rw [S4.lit]
  obtain ⟨⟨d0, d1, d2, d3⟩, -⟩ := obj4 (S4.at_ Q1.out.zero (.slice none 0 0) (.int .i64 0) (.slice none 0 0) (.slice none 0 0))
  refine bodyPost_ret (v := .tuple #[.agg #[.slice none 0 0, .int .i64 0, .slice none 0 0, .slice none 0 0], .int .i64 u]) (by simp [results, Tryz.results82, go_sem, d0, d1, d2, d3]) rfl ?_
  rw [R.out]
  exact err_ans u Q1.out.below Q1.out.wz
end Go.Proofs.YtkbekojnmdgdgaaGreatDoor
/- RnDone -/
namespace Go.Proofs.YtkbekojnmdgdgaaGreatDoor
open Go.RowKit
set_option maxRecDepth 20000
set_option maxHeartbeats 2000000 in
theorem done_p (p : At3) (r : Rn.R) (hI : Rn.Inv r) (w : World) (O : Nat → Prop) (h : RunO w O p r) (a x : Int) (s : ByteArray) (ha : inI a) (hx : inI x) (_ : s.size ≤ 140737488355328) : Calls Tryz.prog 83 #[rv p r, .int .i64 a, .int .i64 x, .string s] w (RunG w (Rn.doneV r a x s.data.toList)) := by
 have V : Hid (Rn.doneV r a x s.data.toList = if Rn.heldE r a x = 0 then (Rn.doneS r a x s.data.toList, 0) else (Rn.r0, Rn.heldE r a x)) := Lib.hid rfl
 have MO : Hid (Rn.heldE r a x = 0 → (0 ≤ a ∧ a < (r.ts.length : Int) ∧ r.st = 0) ∧ (Rn.tk r a).ph = 2 ∧ (Rn.tk r a).tr = x) := Lib.hid fun e => by
  have h2 := Rn.heldE_ok e
  exact ⟨Rn.mayE_ok h2.1, h2.2⟩
 have RF : Hid (∀ W n l, Below w.heap.size w W → n = r.d.length → l = r.sg.length → Calls Tryz.prog 108 #[.agg #[.slice p.A n p.ca, .int .i64 r.st, .slice p.T n p.ct, .slice p.S l p.cs], .int .i64 a, .int .i64 x] W (IntG W (Rn.heldE r a x))) := Lib.hid fun W n l hb hn hl => by
  have := outcome_p p r hI.len a x ha hx W O (h.on hb)
  unfold rv at this
  rw [hI.len, ← hn, ← hl] at this
  exact this
 have TK : Hid (Rn.tk r a = r.ts.getD a.toNat Rn.t0) := Lib.hid rfl
 have SS : Hid (Rn.doneS r a x s.data.toList = Rn.upd ⟨r.d, r.st, r.ts.set a.toNat ⟨3, x, 0, s.data.toList⟩, r.sg⟩) := Lib.hid rfl
 generalize Rn.doneV r a x s.data.toList = v at *
 generalize Rn.doneS r a x s.data.toList = r2 at *
 generalize Rn.heldE r a x = u at *
 generalize Rn.tk r a = kk at *
 obtain ⟨ha0, ha1⟩ := ha
 obtain ⟨hx0, hx1⟩ := hx
 have CP : Hid (∀ W n l, Below w.heap.size w W → n = r.d.length → l = r.sg.length → Calls Tryz.prog 78 #[.agg #[.slice p.A n p.ca, .int .i64 r.st, .slice p.T n p.ct, .slice p.S l p.cs]] W (CopG W n r.st n l r)) :=
  Lib.hid fun W n l hb hn hl => copied_q p r (Bd.of hI.toPre) w W O h hb n r.st n l hn rfl (hn.trans hI.len.symm) hl
 have BD := Lib.hid (Bd.of hI.toPre)
 have PI := Lib.hid hI.toPre
 have AI := Lib.hid (AfterIn.of hI.toPre)
 have H0 := Lib.hid h
 obtain ⟨n, hn⟩ : ∃ n, n = r.d.length := ⟨_, rfl⟩
 obtain ⟨l, hl⟩ : ∃ l, l = r.sg.length := ⟨_, rfl⟩
 have HM : Hid (r.ts.length = n) := Lib.hid (hI.len.trans hn.symm)
 have HN := Lib.hid (⟨hn, hl⟩ : n = r.d.length ∧ l = r.sg.length)
 have n9 : n ≤ 1100 := by rw [hn]; exact BD.out.d
 unfold rv
 rw [hI.len, ← hn, ← hl]
 clear hn hl hI h
 obtain ⟨W0, hW0⟩ : ∃ W0, W0 = (w.alloc (.cells #[.slice p.A n p.ca, .int .i64 r.st, .slice p.T n p.ct, .slice p.S l p.cs] 41)).alloc (.cells #[.slice none 0 0, .int .i64 0, .slice none 0 0, .slice none 0 0] 41) := ⟨_, rfl⟩
 have Q0 : Hid (Cq w W0 w.heap.size (w.heap.size + 1) (w.heap.size + 1 + 1) p n r.st n l) := Lib.hid (by rw [hW0]; exact Cq.new w p n n l r.st)
 have B0 : Hid (Below w.heap.size w W0) := Lib.hid Q0.out.below
 rw [HM.out] at MO
 go_enter Tryz.func83, Tryz.ntmps83
 obtain ⟨⟨x0, x1, x2, x3⟩, -⟩ := obj4 Q0.out.box
 go_upto_region 1 with (fail)
 rw [← hW0]
 clear hW0
 go_wp2_with fail
 (with_reducible refine (RF.out _ n l B0.out HN.out.1 HN.out.2).mono ?_); rintro e W1 ⟨rfl, b1⟩
 have Q1 := Lib.hid (Q0.out.on b1.out)
 clear x0 x1 x2 x3
 obtain ⟨⟨x0, x1, x2, x3⟩, -⟩ := obj4 Q1.out.box
 by_cases hu : u = 0
 ·obtain ⟨⟨a0, a1, s0⟩, h2, h3⟩ := MO.out hu
  have R : Hid (v = (r2, 0)) := Lib.hid (by rw [V.out, if_pos hu])
  subst hu
  obtain ⟨i, hi⟩ : ∃ i : Nat, a = (i : Int) := ⟨a.toNat, by omega⟩
  subst hi
  subst h3
  have hin : i < n := by omega
  have HD : Hid (i < r.ts.length) := Lib.hid (by rw [HM.out]; exact hin)
  have HE : Hid (i < r.d.length) := Lib.hid (by rw [← HN.out.1]; exact hin)
  rw [s0] at Q0 Q1 x1 CP
  rw [Int.toNat_natCast] at TK
  clear MO RF V
  go_wp2_with fail
  (with_reducible refine (CP.out W1 n l Q1.out.below HN.out.1 HN.out.2).mono ?_); rintro e W2 ⟨q, rfl, o2, b2⟩
  have C3 := Lib.hid (Q1.out.copy o2.out b2.out)
  clear x0 x1 x2 x3
  obtain ⟨⟨x0, x1, x2, x3⟩, f0, f1, f2, f3⟩ := obj4 (Q1.out.on b2.out).box
  go_upto_region 5 with (fail)
  rw [S4.lit]
  obtain ⟨W3, hW3⟩ : ∃ W3, W3 = S4 W2 w.heap.size (.slice q.A n q.ca) (.int .i64 0) (.slice q.T n q.ct) (.slice q.S l q.cs) := ⟨_, rfl⟩
  rw [← hW3] at C3 ⊢
  clear hW3 x0 x1 x2 x3 f0 f1 f2 f3
  rw [s0, Int.toNat_natCast] at SS
  obtain ⟨r3, hr3⟩ : ∃ r3 : Rn.R, r3 = ⟨r.d, 0, r.ts.set i ⟨3, kk.tr, 0, s.data.toList⟩, r.sg⟩ := ⟨_, rfl⟩
  rw [← hr3] at SS
  have R3 := Lib.hid hr3
  clear hr3
  obtain ⟨g, hT, hg, -⟩ := C3.out.own.at0 (by rw [HM.out]; omega)
  obtain ⟨⟨k0, k1, k2, k3⟩, m0, m1, m2, m3⟩ := C3.out.own.tk hT HD.out
  obtain ⟨⟨x0, x1, x2, x3⟩, -⟩ := obj4 C3.out.box
  rw [hT] at x2
  have O4 := C3.out.own.put023 hT HD.out TK.out.symm 3 0 s.data.toList ⟨by omega, by omega⟩ ⟨by omega, by omega⟩ 0
  rw [str_list] at O4
  have C4 := Lib.hid (C3.out.sets (r' := r3) hg rfl (by rw [R3.out]; exact O4))
  clear O4
  obtain ⟨W4, hW4⟩ : ∃ W4, W4 = ((W3.setCell ⟨g, i * 4, none⟩ (.int .i64 3)).setCell ⟨g, i * 4 + 2, none⟩ (.int .i64 0)).setCell ⟨g, i * 4 + 3, none⟩ (.string s) := ⟨_, rfl⟩
  rw [← hW4] at C4
  go_upto_region 7 with (fail)
  rw [← hW4]
  clear hW4 x0 x1 x2 x3 k0 k1 k2 k3 m0 m1 m2 m3 hT
  have UP := update_p q r3 w.heap.size (w.heap.size + 1 + 1) n l (by omega) (by rw [R3.out]; exact ⟨BD.out.d, BD.out.a, by show (r.ts.set _ _).length ≤ _; rw [List.length_set]; exact BD.out.t, BD.out.s, BD.out.z⟩) (by rw [R3.out]; exact fun i hi a ha => by show 0 ≤ a ∧ a < ((r.ts.set _ _).length : Int); rw [List.length_set]; exact AI.out i hi a ha) (by rw [R3.out]; exact HN.out.1) (by rw [R3.out]; show (r.ts.set _ _).length = _; rw [List.length_set, HM.out]; exact HN.out.1) (by omega) (by rw [R3.out]; exact HN.out.2) W4 (by rw [show r3.st = 0 by rw [R3.out]]; exact C4.out.box) C4.out.own
  rw [← SS.out] at UP
  have UP := Lib.hid UP
  go_wp2_with fail
  (with_reducible refine UP.out.mono ?_); intro e W5 hu5
  obtain ⟨rfl, C5⟩ := UpdPost.cp C4.out hu5
  clear UP hu5
  have F5 : Hid (r2.d = r.d ∧ r2.ts.length = n ∧ r2.sg = r.sg) := Lib.hid (by
   rw [SS.out, R3.out]
   refine ⟨rfl, ?_, rfl⟩
   show (List.zipWith _ r.d (r.ts.set _ _)).length = n
   rw [List.length_zipWith, List.length_set, HM.out, ← HN.out.1]
   omega)
  obtain ⟨s5, hs5⟩ : ∃ s5, s5 = r2.st := ⟨_, rfl⟩
  rw [← hs5] at C5
  have S5 := Lib.hid hs5
  clear hs5
  obtain ⟨⟨x0, x1, x2, x3⟩, -⟩ := obj4 C5.out.box
  obtain ⟨⟨z0, z1, z2, z3⟩, g0, g1, g2, g3⟩ := obj4 C5.out.zero
  go_wp2
  rw [S4.lit]
  obtain ⟨⟨d0, d1, d2, d3⟩, -⟩ := obj4 (S4.at_ C5.out.zero (.slice q.A n q.ca) (.int .i64 s5) (.slice q.T n q.ct) (.slice q.S l q.cs))
  have A5 := C5.out.ans (.slice q.A n q.ca) (.int .i64 s5) (.slice q.T n q.ct) (.slice q.S l q.cs)
  refine bodyPost_ret (v := .tuple #[.agg #[.slice q.A n q.ca, .int .i64 s5, .slice q.T n q.ct, .slice q.S l q.cs], .int .i64 0]) (by simp [results, Tryz.results83, go_sem, d0, d1, d2, d3]) rfl ?_
  rw [R.out]
  refine ⟨q, ?_, Lib.hid A5.1, Lib.hid A5.2⟩
  unfold rv
  dsimp only
  rw [F5.out.1, F5.out.2.1, F5.out.2.2, ← HN.out.1, ← HN.out.2, S5.out]
 ·have R : Hid (v = (Rn.r0, u)) := Lib.hid (by rw [V.out, if_neg hu])
  have hu' : (u != 0) = true := by simpa using hu
  clear MO V
  obtain ⟨⟨z0, z1, z2, z3⟩, g0, g1, g2, g3⟩ := obj4 Q1.out.zero
  go_wp2
  rw [S4.lit]
  obtain ⟨⟨d0, d1, d2, d3⟩, -⟩ := obj4 (S4.at_ Q1.out.zero (.slice none 0 0) (.int .i64 0) (.slice none 0 0) (.slice none 0 0))
  refine bodyPost_ret (v := .tuple #[.agg #[.slice none 0 0, .int .i64 0, .slice none 0 0, .slice none 0 0], .int .i64 u]) (by simp [results, Tryz.results83, go_sem, d0, d1, d2, d3]) rfl ?_
  rw [R.out]
  exact err_ans u Q1.out.below Q1.out.wz
end Go.Proofs.YtkbekojnmdgdgaaGreatDoor
/- RnFail -/
namespace Go.Proofs.YtkbekojnmdgdgaaGreatDoor
open Go.RowKit
set_option maxRecDepth 20000
theorem delay_eq (b x : Int) (h : 1 ≤ x) : Rn.delay b x = Bk.delayI b x := by
 unfold Rn.delay Bk.delayI
 by_cases hb : b < 1
 ·rw [if_pos (.inl hb), show b.toNat = 0 by omega]
  unfold Bk.dl
  simp
 ·rw [if_neg (by omega)]
theorem Own3.put02 {w : World} {base g : Nat} {p : At3} {r : Rn.R} (h : Own3 w base p r) (hT : p.T = some ⟨g, 0, none⟩) {i : Nat} (hi : i < r.ts.length) {kk : Rn.Tk} (hk : r.ts.getD i Rn.t0 = kk) (ph un : Int) (hp : inI ph) (hu : inI un) (st : Int) :
  Own3 ((w.setCell ⟨g, i * 4, none⟩ (.int .i64 ph)).setCell ⟨g, i * 4 + 2, none⟩ (.int .i64 un)) base p ⟨r.d, st, r.ts.set i ⟨ph, kk.tr, un, kk.da⟩, r.sg⟩ := by
 have KI : tkIn kk := by rw [← hk, getD_at hi]; exact h.ti _ (List.getElem_mem hi)
 have h1 := h.putT hT hi (j := 0) (by decide) (u := .int .i64 ph) rfl ⟨ph, kk.tr, kk.un, kk.da⟩ ⟨hp, KI.2⟩ (by rw [hk]; rfl) st
 have h2 := h1.putT hT (k := i) (by show i < (r.ts.set i _).length; rw [List.length_set]; exact hi) (j := 2) (by decide) (u := .int .i64 un) rfl ⟨ph, kk.tr, un, kk.da⟩ ⟨hp, KI.2.1, hu⟩ (by
  show (tkV ((r.ts.set i _).getD i Rn.t0)).set 2 _ = _
  rw [Rn.getD_set hi, if_pos rfl]
  rfl) st
 have e : ((r.ts.set i ⟨ph, kk.tr, kk.un, kk.da⟩).set i ⟨ph, kk.tr, un, kk.da⟩) = r.ts.set i ⟨ph, kk.tr, un, kk.da⟩ := List.set_set ..
 rw [← e]
 exact h2
theorem two_sets {w W1 W2 : World} {X g nq : Nat} {T : Option Addr} (h : Only (fun b => b = X ∨ ¬ Off b T) w W1) (hg : ¬ Off g T) (hW : W2 = W1.drewN nq) (o1 o2 : Nat) (v1 v2 : Value) :
  Hid (Only (fun b => b = X ∨ ¬ Off b T) w ((W2.setCell ⟨g, o1, none⟩ v1).setCell ⟨g, o2, none⟩ v2)) := by
 refine Lib.hid ?_
 have h3 := (Only.set (fun b => b = X ∨ ¬ Off b T) o1 W2 v1 (.inr hg)).trans (Only.set (fun b => b = X ∨ ¬ Off b T) o2 _ v2 (.inr hg)) fun i hi => .inl hi
 rw [hW] at h3 ⊢
 exact (h.drewN nq).trans h3 fun i hi => .inl hi
theorem failAt_p (p : At3) (r : Rn.R) (X base n l i : Nat) (now : Int) (hX : X < base) (hi : i < n) (hn : n = r.d.length) (hl : r.ts.length = r.d.length) (hn9 : n ≤ 1100) (t0 : 0 ≤ now) (t1 : now ≤ Rn.tickMax) (ht0 : 1 ≤ (r.ts.getD i Rn.t0).tr) (hda : (r.ts.getD i Rn.t0).da = []) (w : World) (hw : boxR w X p n r.st n l) (h : Own3 w base p r) :
  Calls Tryz.prog 81 #[.pointer (some ⟨X, 0, none⟩), .int .i64 (i : Int), .int .i64 now] w (UpdPost w base X p (Rn.failsS r i now) n l) := by
 obtain ⟨g, hT, hg, -⟩ := h.at0 (by omega)
 obtain ⟨b, off, A2, cc, t, hA, -, ht, z2, zc, nin, y0, y1, y2, y3, y4, y5⟩ := h.d.at_ (i := i) (by omega)
 obtain ⟨⟨c0, c1, c2, c3⟩, f0, f1, f2, f3⟩ := h.tk hT (k := i) (by omega)
 obtain ⟨A, ca, T, ct, S, cs⟩ := p
 dsimp only at hT hA
 subst hT
 subst hA
 have HN := Lib.hid hn
 have HL := Lib.hid hl
 have GB := Lib.hid hg
 have HX := Lib.hid hX
 have W0 := Lib.hid hw
 have O0 := Lib.hid h
 obtain ⟨⟨x0, x1, x2, x3⟩, xf0, xf1, xf2, xf3⟩ := obj4 hw
 have hlt : (i : Int) < (n : Int) := by omega
 have AL : ∀ (b o : Nat) (v : Value), w.cell? ⟨b, o, none⟩ = some v → (w.alloc (.cells #[.string ⟨#[]⟩, .slice none 0 0, .int .i64 0, .int .i64 0, .int .i64 0, .string ⟨#[]⟩] 96)).cell? ⟨b, o, none⟩ = some v := fun b o v hc => ((Below.refl w.heap.size w).alloc (Nat.le_refl _) _).cell (block_lt hc) |>.trans hc
 have X0 := AL _ _ _ x0
 have X2 := AL _ _ _ x2
 have Y0 := AL _ _ _ y0
 have Y1 := AL _ _ _ y1
 have Y2 := AL _ _ _ y2
 have Y3 := AL _ _ _ y3
 have Y4 := AL _ _ _ y4
 have Y5 := AL _ _ _ y5
 have EF : Hid (Rn.failsS r (i : Int) now = if (r.ts.getD i Rn.t0).tr ≤ t.retry then ⟨r.d, r.st, r.ts.set i ⟨5, (r.ts.getD i Rn.t0).tr, now + Rn.delay t.base (r.ts.getD i Rn.t0).tr, []⟩, r.sg⟩ else ⟨r.d, 2, r.ts.set i ⟨4, (r.ts.getD i Rn.t0).tr, 0, []⟩, r.sg⟩) := Lib.hid (by
  have e : Rn.df r (i : Int) = t := by
   show r.d.getD i Rn.tz = t
   rw [List.getD_eq_getElem?_getD, ht.out]
   rfl
  unfold Rn.failsS Rn.setT
  rw [e]
  rfl)
 have KI := Lib.hid (h.ti (r.ts.getD i Rn.t0) (by rw [getD_at (by omega)]; exact List.getElem_mem _))
 generalize Rn.failsS r (i : Int) now = r2 at *
 have HI : Hid (i < r.ts.length) := Lib.hid (by omega)
 generalize hkk : r.ts.getD i Rn.t0 = kk at *
 have KK := Lib.hid hkk
 have DA := Lib.hid hda
 clear hn hl hX hw h hg hi AL hkk hda
 go_enter Tryz.func81, Tryz.ntmps81
 go_wp2_with fail
 go_region
 obtain ⟨W1, hW1⟩ : ∃ W1, W1 = (w.alloc (.cells #[.string (str t.name), .slice A2 t.after.length cc, .int .i64 t.retry, .int .i64 t.wait, .int .i64 t.base, .string (str t.on)] 96)).drew := ⟨_, rfl⟩
 have B1 : Hid (Below w.heap.size w W1) := Lib.hid (by rw [hW1]; exact ((Below.refl _ _).alloc (Nat.le_refl _) _).drew)
 have T1 : Hid (W1.heap[w.heap.size]? = some (.cells #[.string (str t.name), .slice A2 t.after.length cc, .int .i64 t.retry, .int .i64 t.wait, .int .i64 t.base, .string (str t.on)] 96 (0, 0))) := Lib.hid (by rw [hW1]; exact heap_alloc_new _ _)
 rw [← hW1]
 clear hW1 X0 X2 Y0 Y1 Y2 Y3 Y4 Y5 y0 y1 y2 y3 y4 y5 x0 x1 x2 x3 xf0 xf1 xf2 xf3 f0 f1 f2 f3 c0 c1 c2 c3
 have U1 := W0.out.on B1.out
 have O1 := O0.out.grew B1.out
 have N1 : Hid (Only (fun b => b = X ∨ ¬ Off b (some ⟨g, 0, none⟩)) w W1) := Lib.hid (Only.of B1.out)
 have HU := Lib.hid U1
 have HO := Lib.hid O1
 obtain ⟨⟨x0, x1, x2, x3⟩, xf0, xf1, xf2, xf3⟩ := obj4 U1
 obtain ⟨⟨c0, c1, c2, c3⟩, f0, f1, f2, f3⟩ := O1.tk rfl HI.out
 obtain ⟨y0, y1, y2, y3, y4, y5⟩ := ob6 T1.out
 rw [KK.out] at c0 c1 c2 c3
 clear U1 O1 W0 O0
 obtain ⟨bi0, bi1⟩ : inI t.base := nin.out.2.2
 have t1' : now ≤ 2305843009213693952 := t1
 clear t1
 by_cases htr : kk.tr ≤ t.retry
 ·have DE : Rn.delay t.base kk.tr = Bk.delayI t.base kk.tr := delay_eq _ _ ht0
  have D1 := Lib.hid (delay_same t.base kk.tr ⟨bi0, bi1⟩ KI.out.2.1)
  obtain ⟨hd0, hd1⟩ := Bk.delayI_rng t.base kk.tr
  rw [DE] at EF
  have R2 : Hid (r2 = ⟨r.d, r.st, r.ts.set i ⟨5, kk.tr, now + Bk.delayI t.base kk.tr, []⟩, r.sg⟩) := Lib.hid (by rw [EF.out, if_pos htr])
  generalize Bk.delayI t.base kk.tr = dd at *
  clear DE EF
  go_wp2_with fail
  go_quiet (fail)
  clear htr
  obtain ⟨W2, hW2⟩ : ∃ W2, W2 = W1.drewN nq := ⟨_, rfl⟩
  have x1' : W2.cell? ⟨X, 1, none⟩ = some (.int .i64 r.st) := by rw [hW2]; exact x1
  have c1' : W2.cell? ⟨g, i * 4 + 1, none⟩ = some (.int .i64 kk.tr) := by rw [hW2]; exact c1
  have c0' : W2.cell? ⟨g, i * 4, none⟩ = some (.int .i64 kk.ph) := by rw [hW2]; exact c0
  have c2' : W2.cell? ⟨g, i * 4 + 2, none⟩ = some (.int .i64 kk.un) := by rw [hW2]; exact c2
  have f0' : W2.frozen? ⟨g, i * 4, none⟩ = false := by rw [hW2]; exact f0
  have f2' : W2.frozen? ⟨g, i * 4 + 2, none⟩ = false := by rw [hW2]; exact f2
  have y4' : W2.cell? ⟨w.heap.size, 4, none⟩ = some (.int .i64 t.base) := by rw [hW2]; exact y4
  rw [← hW2]
  have HW2 := Lib.hid hW2
  clear hW2 x0 x1 x2 x3 xf0 xf1 xf2 xf3 c0 c1 c2 c3 f0 f1 f2 f3 y0 y1 y2 y3 y4 y5
  go_wp2_with fail
  go_region_with (go_at_call 106; (with_reducible refine (D1.out _).mono ?_); rintro e w9 ⟨rfl, rfl⟩)
  all_goals rw [show IntKind.i64.wrap (now + dd) = now + dd from IntWalk.i64_in _ (by omega)]
  all_goals
   go_wp2
   refine bodyPost_ret (results_none rfl _ _ _) rfl ⟨rfl, ?_, ?_, ?_⟩
  all_goals have E2 : W2.heap = W1.heap := by rw [HW2.out]; rfl
  all_goals have GX : X ≠ g := by have h1 := HX.out; have h2 := GB.out; omega
  all_goals first
   |refine Lib.hid ?_
    rw [R2.out]
    refine (show _ = _ from (Below.heap_setCell _ _ _ _ GX).trans (Below.heap_setCell _ _ _ _ GX)).trans ?_
    rw [E2]
    exact HU.out
   |refine Lib.hid ?_
    rw [R2.out, show ([] : Tx.T) = kk.da from DA.out.symm]
    have h1 : Own3 W2 base ⟨some ⟨b, off, none⟩, ca, some ⟨g, 0, none⟩, ct, S, cs⟩ r := HO.out.keep (by rw [E2]; exact Nat.le_refl _) fun _ _ _ => by rw [E2]
    exact (h1.put02 rfl HI.out KK.out 5 (now + dd) ⟨by omega, by omega⟩ ⟨by omega, by omega⟩ r.st).keep (Nat.le_refl _) fun _ _ _ => rfl
   | exact Lib.hid (two_sets N1.out (not_off rfl) HW2.out _ _ _ _).out.drew
 ·have htr' : decide (kk.tr ≤ t.retry) = false := decide_eq_false htr
  have R2 : Hid (r2 = ⟨r.d, 2, r.ts.set i ⟨4, kk.tr, 0, []⟩, r.sg⟩) := Lib.hid (by rw [EF.out, if_neg htr])
  clear EF
  go_wp2_with fail
  go_quiet (fail)
  obtain ⟨W2, hW2⟩ : ∃ W2, W2 = W1.drewN nq := ⟨_, rfl⟩
  have x1' : W2.cell? ⟨X, 1, none⟩ = some (.int .i64 r.st) := by rw [hW2]; exact x1
  have xf1' : W2.frozen? ⟨X, 1, none⟩ = false := by rw [hW2]; exact xf1
  have c0' : W2.cell? ⟨g, i * 4, none⟩ = some (.int .i64 kk.ph) := by rw [hW2]; exact c0
  have c2' : W2.cell? ⟨g, i * 4 + 2, none⟩ = some (.int .i64 kk.un) := by rw [hW2]; exact c2
  have f0' : W2.frozen? ⟨g, i * 4, none⟩ = false := by rw [hW2]; exact f0
  have f2' : W2.frozen? ⟨g, i * 4 + 2, none⟩ = false := by rw [hW2]; exact f2
  rw [← hW2]
  have HW2 := Lib.hid hW2
  have GX : X ≠ g := by have h1 := HX.out; have h2 := GB.out; omega
  clear hW2 x0 x1 x2 x3 xf0 xf1 xf2 xf3 c0 c1 c2 c3 f0 f1 f2 f3 y0 y1 y2 y3 y4 y5 htr htr'
  go_wp2
  refine bodyPost_end (results_none rfl _ _ _) rfl ⟨rfl, ?_, ?_, ?_⟩
  ·refine Lib.hid ?_
   rw [R2.out]
   have h1 : boxR ((W2.setCell ⟨g, i * 4, none⟩ (.int .i64 4)).setCell ⟨g, i * 4 + 2, none⟩ (.int .i64 0)) X ⟨some ⟨b, off, none⟩, ca, some ⟨g, 0, none⟩, ct, S, cs⟩ n r.st n l := by
    refine (show _ = _ from (Below.heap_setCell _ _ _ _ GX).trans (Below.heap_setCell _ _ _ _ GX)).trans ?_
    rw [HW2.out]
    exact HU.out
   exact heap_setCell_same _ _ 1 _ _ _ h1
  ·refine Lib.hid ?_
   rw [R2.out, show ([] : Tx.T) = kk.da from DA.out.symm]
   have h1 : Own3 W2 base ⟨some ⟨b, off, none⟩, ca, some ⟨g, 0, none⟩, ct, S, cs⟩ r := HO.out.keep (by rw [HW2.out]; exact Nat.le_refl _) fun _ _ _ => by rw [HW2.out]; rfl
   exact (h1.put02 rfl HI.out KK.out 4 0 ⟨by omega, by omega⟩ ⟨by omega, by omega⟩ 2).keep (by simp [World.setCell]) fun b hb _ => Below.heap_setCell _ _ _ _ (by have := HX.out; show b ≠ X; omega)
  ·refine Lib.hid ?_
   exact (two_sets N1.out (not_off rfl) HW2.out _ _ _ _).out.trans (Only.set (fun b => b = X ∨ ¬ Off b (some ⟨g, 0, none⟩)) 1 _ _ (.inl rfl)) fun i hi => .inl hi
end Go.Proofs.YtkbekojnmdgdgaaGreatDoor
/- RnFailP -/
namespace Go.Proofs.YtkbekojnmdgdgaaGreatDoor
open Go.RowKit
set_option maxRecDepth 20000
set_option maxHeartbeats 2000000 in
theorem fail_p (p : At3) (r : Rn.R) (hI : Rn.Inv r) (w : World) (O : Nat → Prop) (h : RunO w O p r) (a x : Int) (now : Int) (ha : inI a) (hx : inI x) (h0 : 0 ≤ now) (h1 : now ≤ Rn.tickMax) : Calls Tryz.prog 84 #[rv p r, .int .i64 a, .int .i64 x, .int .i64 now] w (RunG w (Rn.failV r a x now)) := by
 have V : Hid (Rn.failV r a x now = if Rn.heldE r a x = 0 then (Rn.failsS r a now, 0) else (Rn.r0, Rn.heldE r a x)) := Lib.hid rfl
 have MO : Hid (Rn.heldE r a x = 0 → (0 ≤ a ∧ a < (r.ts.length : Int) ∧ r.st = 0) ∧ (Rn.tk r a).ph = 2 ∧ (Rn.tk r a).tr = x) := Lib.hid fun e => by
  have h2 := Rn.heldE_ok e
  exact ⟨Rn.mayE_ok h2.1, h2.2⟩
 have RF : Hid (∀ W n l, Below w.heap.size w W → n = r.d.length → l = r.sg.length → Calls Tryz.prog 108 #[.agg #[.slice p.A n p.ca, .int .i64 r.st, .slice p.T n p.ct, .slice p.S l p.cs], .int .i64 a, .int .i64 x] W (IntG W (Rn.heldE r a x))) := Lib.hid fun W n l hb hn hl => by
  have := outcome_p p r hI.len a x ha hx W O (h.on hb)
  unfold rv at this
  rw [hI.len, ← hn, ← hl] at this
  exact this
 have TK : Hid (Rn.tk r a = r.ts.getD a.toNat Rn.t0) := Lib.hid rfl
 have F5 : Hid ((Rn.failsS r a now).d = r.d ∧ (Rn.failsS r a now).ts.length = r.ts.length ∧ (Rn.failsS r a now).sg = r.sg) := Lib.hid (by
  unfold Rn.failsS Rn.setT
  split <;> exact ⟨rfl, List.length_set .., rfl⟩)
 obtain ⟨r2, hr2⟩ : ∃ r2, r2 = Rn.failsS r a now := ⟨_, rfl⟩
 rw [← hr2] at V F5
 have SS := Lib.hid hr2
 generalize Rn.failV r a x now = v at *
 generalize Rn.heldE r a x = u at *
 generalize Rn.tk r a = kk at *
 clear hr2
 obtain ⟨ha0, ha1⟩ := ha
 obtain ⟨hx0, hx1⟩ := hx
 have CP : Hid (∀ W n l, Below w.heap.size w W → n = r.d.length → l = r.sg.length → Calls Tryz.prog 78 #[.agg #[.slice p.A n p.ca, .int .i64 r.st, .slice p.T n p.ct, .slice p.S l p.cs]] W (CopG W n r.st n l r)) :=
  Lib.hid fun W n l hb hn hl => copied_q p r (Bd.of hI.toPre) w W O h hb n r.st n l hn rfl (hn.trans hI.len.symm) hl
 have BD := Lib.hid (Bd.of hI.toPre)
 have PI := Lib.hid hI.toPre
 have AI := Lib.hid (AfterIn.of hI.toPre)
 have H0 := Lib.hid h
 obtain ⟨n, hn⟩ : ∃ n, n = r.d.length := ⟨_, rfl⟩
 obtain ⟨l, hl⟩ : ∃ l, l = r.sg.length := ⟨_, rfl⟩
 have HM : Hid (r.ts.length = n) := Lib.hid (hI.len.trans hn.symm)
 have HN := Lib.hid (⟨hn, hl⟩ : n = r.d.length ∧ l = r.sg.length)
 have n9 : n ≤ 1100 := by rw [hn]; exact BD.out.d
 unfold rv
 rw [hI.len, ← hn, ← hl]
 clear hn hl hI h
 obtain ⟨W0, hW0⟩ : ∃ W0, W0 = (w.alloc (.cells #[.slice p.A n p.ca, .int .i64 r.st, .slice p.T n p.ct, .slice p.S l p.cs] 41)).alloc (.cells #[.slice none 0 0, .int .i64 0, .slice none 0 0, .slice none 0 0] 41) := ⟨_, rfl⟩
 have Q0 : Hid (Cq w W0 w.heap.size (w.heap.size + 1) (w.heap.size + 1 + 1) p n r.st n l) := Lib.hid (by rw [hW0]; exact Cq.new w p n n l r.st)
 have B0 : Hid (Below w.heap.size w W0) := Lib.hid Q0.out.below
 rw [HM.out] at MO
 go_enter Tryz.func84, Tryz.ntmps84
 obtain ⟨⟨x0, x1, x2, x3⟩, -⟩ := obj4 Q0.out.box
 go_upto_region 1 with (fail)
 rw [← hW0]
 clear hW0
 go_wp2_with fail
 (with_reducible refine (RF.out _ n l B0.out HN.out.1 HN.out.2).mono ?_); rintro e W1 ⟨rfl, b1⟩
 have Q1 := Lib.hid (Q0.out.on b1.out)
 clear x0 x1 x2 x3
 obtain ⟨⟨x0, x1, x2, x3⟩, -⟩ := obj4 Q1.out.box
 by_cases hu : u = 0
 ·obtain ⟨⟨a0, a1, s0⟩, h2, h3⟩ := MO.out hu
  have R : Hid (v = (r2, 0)) := Lib.hid (by rw [V.out, if_pos hu])
  subst hu
  obtain ⟨i, hi⟩ : ∃ i : Nat, a = (i : Int) := ⟨a.toNat, by omega⟩
  subst hi
  subst h3
  have hin : i < n := by omega
  have HD : Hid (i < r.ts.length) := Lib.hid (by rw [HM.out]; exact hin)
  have HE : Hid (i < r.d.length) := Lib.hid (by rw [← HN.out.1]; exact hin)
  rw [s0] at Q0 Q1 x1 CP
  rw [Int.toNat_natCast] at TK
  clear MO RF V
  go_wp2_with fail
  (with_reducible refine (CP.out W1 n l Q1.out.below HN.out.1 HN.out.2).mono ?_); rintro e W2 ⟨q, rfl, o2, b2⟩
  have C3 := Lib.hid (Q1.out.copy o2.out b2.out)
  clear x0 x1 x2 x3
  obtain ⟨⟨x0, x1, x2, x3⟩, f0, f1, f2, f3⟩ := obj4 (Q1.out.on b2.out).box
  go_upto_region 5 with (fail)
  rw [S4.lit]
  obtain ⟨W3, hW3⟩ : ∃ W3, W3 = S4 W2 w.heap.size (.slice q.A n q.ca) (.int .i64 0) (.slice q.T n q.ct) (.slice q.S l q.cs) := ⟨_, rfl⟩
  rw [← hW3] at C3 ⊢
  clear hW3 x0 x1 x2 x3 f0 f1 f2 f3
  have TO : Hid (Rn.TkOk r.d[i] kk) := Lib.hid (by rw [TK.out]; exact PI.out.task i HE.out)
  have UP := failAt_p q r w.heap.size (w.heap.size + 1 + 1) n l i now (by omega) hin HN.out.1 (HM.out.trans HN.out.1) n9 h0 h1 (by rw [← TK.out]; exact TO.out.on (.inl h2)) (by rw [← TK.out]; exact TO.out.da (by rw [h2]; decide)) W3 (by rw [s0]; exact C3.out.box) C3.out.own
  rw [← SS.out] at UP
  have UP := Lib.hid UP
  go_wp2_with fail
  (with_reducible refine UP.out.mono ?_); intro e W5 hu5
  obtain ⟨rfl, C5⟩ := UpdPost.cp C3.out hu5
  clear UP hu5
  obtain ⟨s5, hs5⟩ : ∃ s5, s5 = r2.st := ⟨_, rfl⟩
  rw [← hs5] at C5
  have S5 := Lib.hid hs5
  clear hs5
  obtain ⟨⟨x0, x1, x2, x3⟩, -⟩ := obj4 C5.out.box
  obtain ⟨⟨z0, z1, z2, z3⟩, g0, g1, g2, g3⟩ := obj4 C5.out.zero
  go_wp2
  rw [S4.lit]
  obtain ⟨⟨d0, d1, d2, d3⟩, -⟩ := obj4 (S4.at_ C5.out.zero (.slice q.A n q.ca) (.int .i64 s5) (.slice q.T n q.ct) (.slice q.S l q.cs))
  have A5 := C5.out.ans (.slice q.A n q.ca) (.int .i64 s5) (.slice q.T n q.ct) (.slice q.S l q.cs)
  refine bodyPost_ret (v := .tuple #[.agg #[.slice q.A n q.ca, .int .i64 s5, .slice q.T n q.ct, .slice q.S l q.cs], .int .i64 0]) (by simp [results, Tryz.results84, go_sem, d0, d1, d2, d3]) rfl ?_
  rw [R.out]
  refine ⟨q, ?_, Lib.hid A5.1, Lib.hid A5.2⟩
  unfold rv
  dsimp only
  rw [F5.out.1, F5.out.2.1, HM.out, F5.out.2.2, ← HN.out.1, ← HN.out.2, S5.out]
 ·have R : Hid (v = (Rn.r0, u)) := Lib.hid (by rw [V.out, if_neg hu])
  have hu' : (u != 0) = true := by simpa using hu
  clear MO V
  obtain ⟨⟨z0, z1, z2, z3⟩, g0, g1, g2, g3⟩ := obj4 Q1.out.zero
  go_wp2
  rw [S4.lit]
  obtain ⟨⟨d0, d1, d2, d3⟩, -⟩ := obj4 (S4.at_ Q1.out.zero (.slice none 0 0) (.int .i64 0) (.slice none 0 0) (.slice none 0 0))
  refine bodyPost_ret (v := .tuple #[.agg #[.slice none 0 0, .int .i64 0, .slice none 0 0, .slice none 0 0], .int .i64 u]) (by simp [results, Tryz.results84, go_sem, d0, d1, d2, d3]) rfl ?_
  rw [R.out]
  exact err_ans u Q1.out.below Q1.out.wz
end Go.Proofs.YtkbekojnmdgdgaaGreatDoor
/- RnTick -/
namespace Go.Proofs.YtkbekojnmdgdgaaGreatDoor
open Go.RowKit
set_option maxRecDepth 20000
theorem Rn.tickK_over {r : Rn.R} {now : Int} {k : Nat} (h : (Rn.tickK r now k).st ≠ 0) : ∀ j, Rn.tickK r now (k + j) = Rn.tickK r now k
 | 0 => rfl
 | j + 1 => by
  rw [← Nat.add_assoc, Rn.tickK_next, Rn.tickK_over h j]
  unfold Rn.tick1
  rw [if_pos h]
set_option maxHeartbeats 4000000 in
theorem tick_p (p : At3) (r : Rn.R) (hI : Rn.Inv r) (w : World) (O : Nat → Prop) (h : RunO w O p r) (now : Int) (h0 : 0 ≤ now) (h1 : now ≤ Rn.tickMax) : Calls Tryz.prog 61 #[rv p r, .int .i64 now] w (RunG1 w (Rn.tickS r now)) := by
 have TS : Hid (Rn.tickS r now = Rn.tickK r now r.ts.length) := Lib.hid rfl
 have TI : Hid (∀ k, k ≤ r.ts.length → Rn.Inv (Rn.tickK r now k)) := Lib.hid (hI.tickK h0 h1)
 have TL : Hid (∀ k, (Rn.tickK r now k).ts.length = r.ts.length ∧ (Rn.tickK r now k).d = r.d ∧ (Rn.tickK r now k).sg = r.sg) := Lib.hid (Rn.tickK_len r now)
 have TN : Hid (∀ k, Rn.tickK r now (k + 1) = Rn.tick1 now (Rn.tickK r now k) k) := Lib.hid (Rn.tickK_next r now)
 have TV : Hid (∀ k j, (Rn.tickK r now k).st ≠ 0 → Rn.tickK r now (k + j) = Rn.tickK r now k) := Lib.hid fun k j h => Rn.tickK_over h j
 have T0 : Hid (Rn.tickK r now 0 = r) := Lib.hid rfl
 generalize Rn.tickS r now = rz at *
 obtain ⟨F, hF⟩ : ∃ F : Nat → Rn.R, ∀ k, Rn.tickK r now k = F k := ⟨_, fun _ => rfl⟩
 simp only [hF] at TS TI TL TN TV T0
 clear hF
 have CP : Hid (∀ W n l, Below w.heap.size w W → n = r.d.length → l = r.sg.length → Calls Tryz.prog 78 #[.agg #[.slice p.A n p.ca, .int .i64 r.st, .slice p.T n p.ct, .slice p.S l p.cs]] W (CopG W n r.st n l r)) :=
  Lib.hid fun W n l hb hn hl => copied_q p r (Bd.of hI.toPre) w W O h hb n r.st n l hn rfl (hn.trans hI.len.symm) hl
 have BD := Lib.hid (Bd.of hI.toPre)
 obtain ⟨n, hn⟩ : ∃ n, n = r.d.length := ⟨_, rfl⟩
 obtain ⟨l, hl⟩ : ∃ l, l = r.sg.length := ⟨_, rfl⟩
 have HM : Hid (r.ts.length = n) := Lib.hid (hI.len.trans hn.symm)
 have HN := Lib.hid (⟨hn, hl⟩ : n = r.d.length ∧ l = r.sg.length)
 have n9 : n ≤ 1100 := by rw [hn]; exact BD.out.d
 unfold rv
 rw [hI.len, ← hn, ← hl]
 clear hn hl hI h
 obtain ⟨W0, hW0⟩ : ∃ W0, W0 = (w.alloc (.cells #[.slice p.A n p.ca, .int .i64 r.st, .slice p.T n p.ct, .slice p.S l p.cs] 41)).alloc (.cells #[.slice none 0 0, .int .i64 0, .slice none 0 0, .slice none 0 0] 41) := ⟨_, rfl⟩
 have Q0 : Hid (Cq w W0 w.heap.size (w.heap.size + 1) (w.heap.size + 1 + 1) p n r.st n l) := Lib.hid (by rw [hW0]; exact Cq.new w p n n l r.st)
 have B0 : Hid (Below w.heap.size w W0) := Lib.hid Q0.out.below
 rw [HM.out] at TS
 simp only [HM.out] at TI TL
 go_enter Tryz.func61, Tryz.ntmps61
 obtain ⟨⟨x0, x1, x2, x3⟩, -⟩ := obj4 Q0.out.box
 go_upto_region 1 with (fail)
 rw [← hW0]
 clear hW0
 go_wp2_with fail
 (with_reducible refine (CP.out W0 n l Q0.out.below HN.out.1 HN.out.2).mono ?_); rintro e W2 ⟨q, rfl, o2, b2⟩
 have C3 := Lib.hid (Q0.out.copy o2.out b2.out)
 clear x0 x1 x2 x3
 obtain ⟨⟨x0, x1, x2, x3⟩, f0, f1, f2, f3⟩ := obj4 (Q0.out.on b2.out).box
 go_upto_region 2 with (fail)
 rw [S4.lit]
 obtain ⟨W3, hW3⟩ : ∃ W3, W3 = S4 W2 w.heap.size (.slice q.A n q.ca) (.int .i64 r.st) (.slice q.T n q.ct) (.slice q.S l q.cs) := ⟨_, rfl⟩
 rw [← hW3] at C3 ⊢
 clear hW3 x0 x1 x2 x3 f0 f1 f2 f3
 have SZ := Lib.hid (size_p q n r.st l)
 obtain ⟨⟨x0, x1, x2, x3⟩, -⟩ := obj4 C3.out.box
 go_wp2_with fail
 (with_reducible refine (SZ.out _).mono ?_); rintro e W4 ⟨rfl, b4⟩
 have C4 : Hid (Cp w W4 w.heap.size (w.heap.size + 1) (w.heap.size + 1 + 1) q n (F 0).st n l (F 0)) := Lib.hid (by rw [T0.out]; exact C3.out.on b4.out)
 clear x0 x1 x2 x3 C3 b4 b2 o2 SZ
 go_wp2_with fail
 go_loopw [11] (fun iv wr => ∃ k : Nat, k ≤ n ∧ iv = .int .i64 k ∧ Hid (Cp w wr w.heap.size (w.heap.size + 1) (w.heap.size + 1 + 1) q n (F k).st n l (F k))) (fun iv _ => n - (intOf iv).toNat)
 case atStart => exact ⟨0, Nat.zero_le _, rfl, C4⟩
 case round =>
  obtain ⟨k, hk, rfl, HC⟩ := hrel
  obtain ⟨⟨x0, x1, x2, x3⟩, -⟩ := obj4 HC.out.box
  by_cases hlt : k < n
  ·have hlt' : (k : Int) < (n : Int) := by omega
   by_cases hs : (F k).st = 0
   ·obtain ⟨g, hT, hg, -⟩ := HC.out.own.at0 (by rw [(TL.out k).1]; omega)
    have HD : Hid (k < (F k).ts.length) := Lib.hid (by rw [(TL.out k).1]; exact hlt)
    have HE : Hid (k < (F k).d.length) := Lib.hid (by rw [(TL.out k).2.1, ← HN.out.1]; exact hlt)
    obtain ⟨⟨k0, k1, k2, k3⟩, m0, m1, m2, m3⟩ := HC.out.own.tk hT HD.out
    have TK := Lib.hid ((TI.out k (by omega)).task k HE.out)
    have N1 : Hid (F (k + 1) = if now < (Rn.tk (F k) (k : Int)).un then F k else if (Rn.tk (F k) (k : Int)).ph = 2 then Rn.failsS (F k) (k : Int) now else if (Rn.tk (F k) (k : Int)).ph = 5 then Rn.setT (F k) (k : Int) ⟨1, (Rn.tk (F k) (k : Int)).tr, 0, []⟩ else F k) := Lib.hid (by
     rw [TN.out]
     unfold Rn.tick1
     rw [if_neg (fun h => h hs)])
    have KE : Hid (Rn.tk (F k) (k : Int) = (F k).ts.getD k Rn.t0) := Lib.hid rfl
    rw [KE.out] at N1
    have FA := Lib.hid (fun (h2 : ((F k).ts.getD k Rn.t0).ph = 2) W hw ho => failAt_p q (F k) w.heap.size (w.heap.size + 1 + 1) n l k now (by omega) hlt (HN.out.1.trans (congrArg List.length (TL.out k).2.1).symm) (by rw [(TL.out k).1, (TL.out k).2.1, ← HN.out.1]) n9 h0 h1 (TK.out.on (.inl h2)) (TK.out.da (by rw [h2]; decide)) W hw ho)
    obtain ⟨kk, hkk⟩ : ∃ kk, kk = (F k).ts.getD k Rn.t0 := ⟨_, rfl⟩
    have KK := Lib.hid hkk
    rw [← hkk] at k0 k1 k2 k3 TK N1 FA
    clear hkk KE
    rw [hT] at x2
    rw [hs] at x1
    by_cases hu : now < kk.un
    ·have C5 : Hid (Cp w wr w.heap.size (w.heap.size + 1) (w.heap.size + 1 + 1) q n (F (k + 1)).st n l (F (k + 1))) := Lib.hid (by rw [N1.out, if_pos hu]; exact HC.out)
     clear FA N1 TK hT
     go_wp2
     go_roundw
     case rel => exact ⟨k + 1, by omega, by go_num, C5⟩
     case measure => simp [intOf]; omega
    ·have hu' : decide (now < kk.un) = false := decide_eq_false hu
     by_cases h2 : kk.ph = 2
     ·have N2 : Hid (F (k + 1) = Rn.failsS (F k) (k : Int) now) := Lib.hid (by rw [N1.out, if_neg hu, if_pos h2])
      have UP := Lib.hid (FA.out h2 wr (by rw [hs]; have := HC.out.box; rw [hs] at this; exact this) HC.out.own)
      rw [h2] at k0
      clear FA N1 h2 hT
      go_wp2_with fail
      (with_reducible refine UP.out.mono ?_); intro e W5 hu5
      obtain ⟨rfl, C5⟩ := UpdPost.cp HC.out hu5
      rw [← N2.out] at C5
      clear UP hu5
      go_wp2
      go_roundw
      case rel => exact ⟨k + 1, by omega, by go_num, C5⟩
      case measure => simp [intOf]; omega
     ·clear FA
      by_cases h5 : kk.ph = 5
      ·have N2 : Hid (F (k + 1) = ⟨(F k).d, (F k).st, (F k).ts.set k ⟨1, kk.tr, 0, []⟩, (F k).sg⟩) := Lib.hid (by rw [N1.out, if_neg hu, if_neg h2, if_pos h5]; rfl)
       have DA : Hid (kk.da = []) := Lib.hid (TK.out.da (by rw [h5]; decide))
       have O5 := HC.out.own.put02 hT HD.out KK.out.symm 1 0 ⟨by omega, by omega⟩ ⟨by omega, by omega⟩ (F k).st
       have C5 : Hid (Cp w ((wr.setCell ⟨g, k * 4, none⟩ (.int .i64 1)).setCell ⟨g, k * 4 + 2, none⟩ (.int .i64 0)) w.heap.size (w.heap.size + 1) (w.heap.size + 1 + 1) q n (F (k + 1)).st n l (F (k + 1))) := Lib.hid (by
        rw [N2.out, show ([] : Tx.T) = kk.da from DA.out.symm]
        refine HC.out.put O5 ⟨rfl, rfl, rfl, by simp [World.setCell]⟩ fun b hb => ?_
        exact (Below.heap_setCell _ _ _ _ (by show b ≠ g; omega)).trans (Below.heap_setCell _ _ _ _ (by show b ≠ g; omega)))
       rw [h5] at k0
       clear N1 h2 h5 O5 hT
       go_wp2
       go_roundw
       case rel => exact ⟨k + 1, by omega, by go_num, C5⟩
       case measure => simp [intOf]; omega
      ·have C5 : Hid (Cp w wr w.heap.size (w.heap.size + 1) (w.heap.size + 1 + 1) q n (F (k + 1)).st n l (F (k + 1))) := Lib.hid (by rw [N1.out, if_neg hu, if_neg h2, if_neg h5]; exact HC.out)
       have h2' : (kk.ph == 2) = false := by simpa using h2
       have h5' : (kk.ph == 5) = false := by simpa using h5
       clear N1 hT
       go_wp2
       go_roundw
       case rel => exact ⟨k + 1, by omega, by go_num, C5⟩
       case measure => simp [intOf]; omega
   ·have hs' : ((F k).st != 0) = true := by simpa using hs
    obtain ⟨⟨x0, x1, x2, x3⟩, -⟩ := obj4 HC.out.box
    obtain ⟨⟨z0, z1, z2, z3⟩, g0, g1, g2, g3⟩ := obj4 HC.out.zero
    go_wp2
    rw [S4.lit]
    obtain ⟨⟨d0, d1, d2, d3⟩, -⟩ := obj4 (S4.at_ HC.out.zero (.slice q.A n q.ca) (.int .i64 (F k).st) (.slice q.T n q.ct) (.slice q.S l q.cs))
    have A5 := HC.out.ans (.slice q.A n q.ca) (.int .i64 (F k).st) (.slice q.T n q.ct) (.slice q.S l q.cs)
    refine bodyPost_ret (v := .agg #[.slice q.A n q.ca, .int .i64 (F k).st, .slice q.T n q.ct, .slice q.S l q.cs]) (by simp [results, Tryz.results61, go_sem, d0, d1, d2, d3]) rfl ?_
    rw [show rz = F k from by rw [TS.out, show n = k + (n - k) by omega]; exact TV.out k _ hs]
    refine ⟨q, ?_, Lib.hid A5.1, Lib.hid A5.2⟩
    unfold rv
    rw [(TL.out k).1, (TL.out k).2.1, (TL.out k).2.2, ← HN.out.1, ← HN.out.2]
  ·obtain rfl : k = n := by omega
   have hge : ¬ (k : Int) < (k : Int) := by omega
   obtain ⟨⟨x0, x1, x2, x3⟩, -⟩ := obj4 HC.out.box
   obtain ⟨⟨z0, z1, z2, z3⟩, g0, g1, g2, g3⟩ := obj4 HC.out.zero
   go_wp2
   rw [S4.lit]
   obtain ⟨⟨d0, d1, d2, d3⟩, -⟩ := obj4 (S4.at_ HC.out.zero (.slice q.A k q.ca) (.int .i64 (F k).st) (.slice q.T k q.ct) (.slice q.S l q.cs))
   have A5 := HC.out.ans (.slice q.A k q.ca) (.int .i64 (F k).st) (.slice q.T k q.ct) (.slice q.S l q.cs)
   refine bodyPost_ret (v := .agg #[.slice q.A k q.ca, .int .i64 (F k).st, .slice q.T k q.ct, .slice q.S l q.cs]) (by simp [results, Tryz.results61, go_sem, d0, d1, d2, d3]) rfl ?_
   rw [show rz = F k from TS.out]
   refine ⟨q, ?_, Lib.hid A5.1, Lib.hid A5.2⟩
   unfold rv
   rw [(TL.out k).1, (TL.out k).2.1, (TL.out k).2.2, ← HN.out.1, ← HN.out.2]
end Go.Proofs.YtkbekojnmdgdgaaGreatDoor
/- RnTest -/
namespace Go.Proofs.YtkbekojnmdgdgaaGreatDoor
open Go.RowKit Go.Maps
def fvC (g : Nat) : Value := .func (.func 110) #[] #[.pointer (some ⟨g, 0, none⟩)]
def TestC (g : Nat) (x : ByteArray) (p : Df.Task → Bool) : Prop := ∀ (t : Df.Task), Small t → ∀ (A : Option Addr) (c : Nat) (w : World), w.cell? ⟨g, 0, none⟩ = some (.string x) → Calls Tryz.prog 110 #[tv t A c, .pointer (some ⟨g, 0, none⟩)] w (BoolG w (p t))
theorem on_test (g : Nat) (x : Tx.T) : TestC g (str x) (fun t => decide (t.on = x)) := fun t _ A c w hx => by
 unfold tv
 obtain ⟨s1, hs1⟩ : ∃ s, s = str t.name := ⟨_, rfl⟩
 obtain ⟨n, hn⟩ : ∃ n, n = t.after.length := ⟨_, rfl⟩
 rw [← hs1, ← hn]
 have BB : Hid (Below w.heap.size w (w.alloc (.cells #[.string s1, .slice A n c, .int .i64 t.retry, .int .i64 t.wait, .int .i64 t.base, .string (str t.on)] 96))) := Lib.hid ((Below.refl _ _).alloc (Nat.le_refl _) _)
 have E : Hid (((str t.on).toList == (str x).toList) = decide (t.on = x)) := Lib.hid (by
  by_cases h : t.on = x
  ·rw [h, decide_eq_true rfl]; simp
  ·rw [decide_eq_false h]
   exact bs_ne fun e => h (str_inj.1 e))
 have hx2 := (BB.out.cell (block_lt hx)).trans hx
 dsimp only
 generalize decide (t.on = x) = v at *
 clear hs1 hn
 go_enter Tryz.func110, Tryz.ntmps110
 go_wp2
 go_ret
 exact ⟨ret_bool E.out, BB⟩
set_option maxRecDepth 20000 in
set_option maxHeartbeats 1000000 in
theorem indexFuncC_any (g : Nat) (x : ByteArray) (p : Df.Task → Bool) (hp : TestC g x p) (A : Option Addr) (d : Df.D) (cap : Nat) (hf : Fair d) (w : World) (h : DefIn w w.heap.size A d) (hx : w.cell? ⟨g, 0, none⟩ = some (.string x)) :
  Calls Tryz.prog 118 #[.slice A d.length cap, fvC g] w (FoundG w (d.any p)) := by
 have H := Lib.hid h
 have HP := Lib.hid hp
 have HX := Lib.hid hx
 have HF := Lib.hid hf
 obtain ⟨n, hn⟩ : ∃ n, n = d.length := ⟨_, rfl⟩
 have HN := Lib.hid hn
 have hn9 : n ≤ 1100 := by rw [hn]; exact hf.1
 unfold fvC
 rw [← hn]
 clear h hp hf hn hx
 go_enter Tryz.func118, Tryz.ntmps118
 go_wp2
 go_loopw [8] (fun iv wr => ∃ k : Nat, k ≤ n ∧ iv = .int .i64 k ∧ Hid (NoneTo p d k) ∧ Hid (Below w.heap.size w wr)) (fun iv _ => n - (intOf iv).toNat)
 case atStart => exact ⟨0, Nat.zero_le _, rfl, Lib.hid ⟨Nat.zero_le _, rfl⟩, Lib.hid (Below.refl _ _)⟩
 case round =>
  obtain ⟨k, hk, rfl, HK, HB⟩ := hrel
  by_cases hlt : k < n
  ·have hlt' : (k : Int) < (n : Int) := by omega
   have hkd : Hid (k < d.length) := Lib.hid (by rw [← HN.out]; exact hlt)
   obtain ⟨b, off, A2, c2, rfl, hb, z2, zc, ni, p0, p1, p2, p3, p4, p5⟩ := (H.out.below HB.out).at2 hkd.out
   have CT := Lib.hid (HP.out d[k] (HF.out.2 _ (List.getElem_mem hkd.out)) A2 c2)
   cases hpk : p d[k] with
   | true =>
    rw [hpk] at CT
    have R : Hid (decide (0 ≤ (k : Int)) = d.any p) := Lib.hid (by
     rw [List.any_eq_true.2 ⟨_, List.getElem_mem hkd.out, hpk⟩]
     exact decide_eq_true (by omega))
    clear hpk
    unfold tv at CT
    generalize d[k] = t at *
    go_wp2_with fail
    refine (CT.out _ ((HB.out.cell (block_lt HX.out)).trans HX.out)).mono ?_; rintro e w' ⟨rfl, b2⟩
    go_wp2
    go_ret
    exact ⟨k, rfl, R, by omega, Lib.hid (HB.out.trans (b2.out.mono HB.out.size))⟩
   | false =>
    rw [hpk] at CT
    have R := Lib.hid (HK.out.next hkd.out hpk)
    clear hpk
    unfold tv at CT
    generalize d[k] = t at *
    go_wp2_with fail
    refine (CT.out _ ((HB.out.cell (block_lt HX.out)).trans HX.out)).mono ?_; rintro e w' ⟨rfl, b2⟩
    go_wp2
    go_roundw
    case rel => exact ⟨k + 1, by omega, by go_num, R, Lib.hid (HB.out.trans (b2.out.mono HB.out.size))⟩
    case measure => simp [intOf]; omega
  ·obtain rfl : k = n := by omega
   have R : Hid (decide (0 ≤ (-1 : Int)) = d.any p) := Lib.hid (by
    have := HK.out.2
    rw [HN.out, List.take_length] at this
    rw [this]; rfl)
   have hge : ¬ (k : Int) < (k : Int) := by omega
   go_wp2
   go_ret
   exact ⟨-1, rfl, R, by omega, HB⟩
set_option maxRecDepth 20000 in
set_option maxHeartbeats 1000000 in
theorem containsFuncC_any (g : Nat) (x : ByteArray) (p : Df.Task → Bool) (hp : TestC g x p) (A : Option Addr) (d : Df.D) (cap n : Nat) (hn : n = d.length) (hf : Fair d) (w : World) (h : DefIn w w.heap.size A d) (hx : w.cell? ⟨g, 0, none⟩ = some (.string x)) :
  Calls Tryz.prog 93 #[.slice A n cap, fvC g] w (BoolG w (d.any p)) := by
 have C := Lib.hid (indexFuncC_any g x p hp A d cap hf w h hx)
 rw [← hn] at C
 clear h hp hf hn hx
 unfold fvC at C ⊢
 go_enter Tryz.func93, Tryz.ntmps93
 go_wp2_with fail
 refine C.out.mono ?_; rintro e w' ⟨i, rfl, hi, -, b2⟩
 go_wp2
 go_ret
 exact ⟨ret_bool hi.out, b2⟩
end Go.Proofs.YtkbekojnmdgdgaaGreatDoor
