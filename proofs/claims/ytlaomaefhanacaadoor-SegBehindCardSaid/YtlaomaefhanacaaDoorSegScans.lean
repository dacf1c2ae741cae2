/-
  The law SegScans.
-/
import Derived.Test.YtlaomaefhanacaaDoorSegSays
import Derived.Test.YtlaomaefhanacaaDoorMarks
namespace Go.Proofs.YtlaomaefhanacaaDoor
open Go.RowKit
theorem pack_still (e o : Int) (W : World) (n : Nat) : Calls Tryd.prog 19 #[.int .i64 e, .int .i64 o] (W.drewN n) fun r w' => r = .returned (.tuple #[.int .u64 (Pl.packV e o), .bool (Pl.packOk e o)]) ∧ ∃ m, w' = W.drewN m :=
  (pack_any e o _).mono fun _ _ ⟨h1, h2⟩ => ⟨h1, n, h2.symm⟩
theorem scans_many (first ep cut : Int) (A : Option Addr) (n cap : Nat) (hn : 15 < n) (w : World) (HF : Hid (Facts w)) :
    Calls Tryd.prog 5 #[.slice A n cap, .int .i64 first, .int .i64 ep, .int .i64 cut] w fun e w' => e = .returned (.bool true) ∧ Below w.heap.size w w' := by
  have hn' : (15 : Int) < (n : Int) := by omega
  clear hn
  go_enter Tryd.func5, Tryd.ntmps5
  go_wp2_with fail
  refine (awake_any _ HF.out).mono ?_; rintro e w1 ⟨rfl, b1⟩
  go_wp2
  go_ret
  exact ⟨rfl, b1.out⟩
set_option maxHeartbeats 4000000 in
set_option maxRecDepth 20000 in
theorem scans_walk (first ep cut : Int) (A : Option Addr) (ms : List Mk) (cap : Nat) (hn : ms.length ≤ 15) (w : World) (hm : Marks w w.heap.size A ms) (HF : Hid (Facts w)) (f0 : -9223372036854775808 ≤ first) (f1 : first ≤ 9223372036854775807) :
    Calls Tryd.prog 5 #[.slice A ms.length cap, .int .i64 first, .int .i64 ep, .int .i64 cut] w fun e w' => e = .returned (.bool true) ∧ Below w.heap.size w w' := by
  have hn' : (ms.length : Int) ≤ 15 := by omega
  have HM := Lib.hid hm
  clear hm
  go_enter Tryd.func5, Tryd.ntmps5
  go_wp2_with fail
  refine (awake_any _ HF.out).mono ?_; rintro e w1 ⟨rfl, b1⟩
  go_wp2
  go_loopw [9, 10] (fun bv iv wr => ∃ (k : Nat) (ys : List Int) (A' : Option Addr) (cap' : Nat), k ≤ ms.length ∧ Hid (ys.length ≤ 76 * k) ∧ iv = .int .i64 k ∧ bv = .slice A' ys.length cap' ∧ Hid (OwnB wr w.heap.size A' cap' ys) ∧ Hid (Below w.heap.size w wr)) (fun _ iv _ => ms.length - (intOf iv).toNat)
  case atStart => exact ⟨0, [], none, 0, Nat.zero_le _, Lib.hid (Nat.zero_le _), rfl, rfl, Lib.hid (OwnB.none_ _ _), b1⟩
  case round =>
    obtain ⟨k, ys, A', cap', hk, hy, rfl, rfl, HO, HW⟩ := hrel
    by_cases hlt : k < ms.length
    · have hlt' : (k : Int) < (ms.length : Int) := by omega
      obtain ⟨b, off, ea, oa, p, Ai, ci, rfl, hb, c0, c1, c2, he, hp, hpl⟩ := (HM.out.below HW.out).at_ hlt
      by_cases hpk : Pl.packOk ea oa = true
      · have hr : 0 ≤ Pl.packV ea oa ∧ Pl.packV ea oa < 18446744073709551616 := by
          unfold Pl.packOk at hpk
          have := of_decide_eq_true hpk
          unfold Pl.packV
          split <;> omega
        have PK := Lib.hid (pack_still ea oa)
        rw [hpk] at PK
        clear hpk
        generalize Pl.packV ea oa = at_ at *
        by_cases hp60 : p.length ≤ 60
        · have hp60' : (p.length : Int) ≤ 60 := by omega
          have hyl : Hid (ys.length ≤ 100000000) := by have := hy.out; show _ ≤ _; omega
          go_wp2_with fail
          go_quiet ((go_at_call 19; exact PK.out _ _))
          have HW2 := Lib.hid (below_n HW.out nq)
          have c2' : (wr.drewN nq).cell? ⟨b, off + k * 3 + 2, none⟩ = some (.slice Ai p.length ci) := c2
          have HO2 : Hid (OwnB (wr.drewN nq) w.heap.size A' cap' ys) := Lib.hid (HO.out.keep fun _ _ => rfl)
          have hp2 : Hid (Bytes (wr.drewN nq) w.heap.size Ai p) := Lib.hid (hp.out.keep fun _ _ _ => rfl)
          clear c0 c1 c2 HO hp HW
          generalize wr.drewN nq = wq at *
          go_wp2_with fail
          refine (put_any A' Ai ys p cap' ci at_ hr.1 hr.2 hyl.out (by omega) wq HO2.out.bytes (hp2.out.more HW2.out.size)).mono ?_
          rintro e w2 ⟨zs, A2, c2, hz, rfl, o2, g2⟩
          have HZ : Hid (zs.length ≤ 76 * (k + 1)) := by
            show _ ≤ _
            rw [hz.out, List.length_append, Fr.putV_len]
            have := hy.out
            omega
          have O2 := Lib.hid (o2.low HW2.out.size)
          have G2 := Lib.hid (HW2.out.trans (g2.below.mono HW2.out.size))
          clear o2 g2 hz
          go_wp2
          go_roundw
          case rel => exact ⟨k + 1, zs, A2, c2, by omega, HZ, by go_num, rfl, O2, G2⟩
          case measure => simp [intOf]; omega
        · have hp60' : (60 : Int) < (p.length : Int) := by omega
          clear hp60
          go_wp2_with fail
          go_quiet ((go_at_call 19; exact PK.out _ _))
          have HW2 := Lib.hid (below_n HW.out nq)
          have c2' : (wr.drewN nq).cell? ⟨b, off + k * 3 + 2, none⟩ = some (.slice Ai p.length ci) := c2
          clear c0 c1 c2 HO hp HW
          generalize wr.drewN nq = wq at *
          go_wp2
          go_ret
          exact ⟨rfl, HW2.out⟩
      · have PK := Lib.hid (pack_still ea oa)
        rw [show Pl.packOk ea oa = false by simpa using hpk] at PK
        clear hpk
        go_wp2_with fail
        go_quiet ((go_at_call 19; exact PK.out _ _))
        have HW2 := Lib.hid (below_n HW.out nq)
        clear c0 c1 c2 HO hp HW
        generalize wr.drewN nq = wq at *
        go_wp2
        go_ret
        exact ⟨rfl, HW2.out⟩
    · have hlt' : (ms.length : Int) ≤ (k : Int) := by omega
      have hyl : Hid (ys.length ≤ 1140) := by have := hy.out; show _ ≤ _; omega
      clear hy hlt
      have hyo := HO.out.cap_
      by_cases hcut : 0 ≤ cut ∧ cut < (ys.length : Int)
      · obtain ⟨c, rfl⟩ := Int.eq_ofNat_of_zero_le hcut.1
        obtain ⟨hcu0, hcu⟩ := hcut
        have hsl := slice_to A' ys.length cap' c (by omega) .i64
        obtain ⟨zs, m, hmz, hmc, hm2, BZ⟩ : ∃ (zs : List Int) (m : Nat), m = zs.length ∧ m ≤ cap' ∧ m ≤ 1140 ∧ Hid (Bytes wr wr.heap.size A' zs) ∧ m = c :=
          ⟨ys.take c, c, by rw [List.length_take]; omega, by omega, by have := hyl.out; omega, Lib.hid (HO.out.bytes.head c), rfl⟩
        obtain ⟨BZ, rfl⟩ := BZ
        clear hyo HO hyl
        have SC := scan_any A' zs cap' first ep (by omega) (by omega) wr BZ.out
        have RS : Hid (∀ W, Below wr.heap.size wr W → Calls Tryd.prog 17 #[.slice A' m cap', .int .i64 first, .int .i64 ep] W (RScanPost W zs first ep)) := Lib.hid fun W hW => by
          rw [hmz]; exact rscan_any A' zs cap' first ep (by omega) (by omega) W ((BZ.out.below hW).more hW.size)
        have HT := Lib.hid (Sg.scV_tells zs.length zs first ep (Nat.le_refl _) BZ.out.byte)
        rw [← hmz] at SC
        have hlast : Hid ((Sg.scV zs first ep).2 ≤ m ∧ 16 * (Sg.scV zs first ep).1.length ≤ (Sg.scV zs first ep).2) := by
          have e := HT.out.1
          have e2 := HT.out.2.1
          exact ⟨by omega, e⟩
        have hm1 : (m : Int) ≤ 1140 := by omega
        clear hmz hmc hm2
        go_wp2_with fail
        refine SC.mono ?_; rintro e w4 ⟨l, A1, c1, h1, rfl, o1, d1⟩
        have O1 := Lib.hid o1
        have D1 := Lib.hid d1
        clear o1 d1 SC
        go_wp2_with fail
        refine (RS.out _ D1.out).mono ?_; rintro e w5 ⟨l2, A2, c2, h2, rfl, o2, d2⟩
        have D2 := Lib.hid (below_on D1.out d2)
        obtain rfl : l = l2 := h1.out.symm.trans h2.out
        have LL : l.length ≤ 1000000000 := by
          have := hlast.out
          rw [h1.out] at this
          omega
        have O2 := Lib.hid (O1.out.grew d2 (Nat.le_refl _))
        have RC := Lib.hid (recs_same A1 A2 c1 c2 wr.heap.size l LL w5 O2.out (OwnP.low o2 D1.out.size))
        have LL' : (l.length : Int) ≤ 1000000000 := by omega
        have HL := Lib.hid h1.out
        have hk2 : ((Sg.scV zs first ep).2 : Int) ≤ (m : Int) := by have := hlast.out; omega
        have HT1 := Lib.hid HT.out.2.2.1
        have HT2 := Lib.hid HT.out.2.2.2
        rw [HL.out] at HT1 HT2
        clear o2 d2 LL h1 h2 HT hlast O1 HL
        generalize (Sg.scV zs first ep).2 = kk at *
        go_wp2_with fail
        refine RC.out.mono ?_; rintro e w6 ⟨rfl, d3⟩
        have D3 := Lib.hid (below_on D2.out d3)
        have O3 := Lib.hid (O2.out.grew d3 (Nat.le_refl _))
        clear d3 RC O2
        go_wp2
        go_loopw [19] (fun iv wq => ∃ k : Nat, k ≤ l.length ∧ iv = .int .i64 k ∧ Hid (Below w6.heap.size w6 wq)) (fun iv _ => l.length - (intOf iv).toNat)
        case atStart => exact ⟨0, Nat.zero_le _, rfl, Lib.hid (Below.refl _ _)⟩
        case round =>
          obtain ⟨k, hk, rfl, HQ⟩ := hrel
          by_cases hlt : k < l.length
          · have hlt' : (k : Int) < (l.length : Int) := by omega
            have R1 := O3.out.grew HQ.out (Nat.le_refl _)
            obtain ⟨g, A3, c3, at_, p, rfl, hg, x0, x1, hb, he⟩ := R1.at_ hlt
            have hT := HT1.out k hlt
            rw [he.out] at hT
            obtain ⟨o, e1, ho, hee, o0, o1, e0', e1', CO, CE⟩ := parts_any at_ hT.2.2.1 hT.2.2.2
            have hof : o = first + (k : Int) := by rw [ho]; exact hT.1
            have hep : ep ≤ e1 := by rw [hee]; exact hT.2.1
            cases k with
            | zero =>
              have CO1 : ∀ W, Calls Tryd.prog 21 #[.int .u64 at_] W fun r w' => r = .returned (.int .i64 first) ∧ W = w' := by
                have e : o = first := by omega
                rw [← e]; exact CO
              have HC := Lib.hid CO1
              have HE := Lib.hid CE
              have hw1 : IntKind.i64.wrap first = first := IntWalk.i64_in _ (by omega)
              have hd : decide (e1 < ep) = false := decide_eq_false (by omega)
              clear hep hT ho hee hof o0 o1 CO CE CO1
              go_wp2_with fail
              go_quiet ((first | (go_at_call 21; exact still HC.out) | (go_at_call 22; exact still HE.out)))
              go_wp2
              go_roundw
              case rel => exact ⟨1, by omega, by go_num, Lib.hid (below_n HQ.out _)⟩
              case measure => simp [intOf]; omega
            | succ j =>
              have R2 := O3.out.grew HQ.out (Nat.le_refl _)
              obtain ⟨g2, A4, c4, at2, p2, hgg, hg2, y0, y1, hb2, he2⟩ := R2.at_ (i := j) (by omega)
              obtain rfl : g = g2 := by injection hgg with hgg; injection hgg
              have hT2 := HT1.out j (by omega)
              rw [he2.out] at hT2
              obtain ⟨oo, e2, _, hee2, _, _, e0'', e1'', _, CE2⟩ := parts_any at2 hT2.2.2.1 hT2.2.2.2
              have hle : e2 ≤ e1 := by
                have := HT2.out j hlt
                rw [he.out, he2.out] at this
                rw [hee, hee2]; exact this
              have hw1 : IntKind.i64.wrap (first + ((j : Int) + 1)) = first + ((j : Int) + 1) := IntWalk.i64_in _ (by omega)
              have hl2 : (j : Int) + 1 < (l.length : Int) := by omega
              have hj2 : (j : Int) < (l.length : Int) := by omega
              have CO1 : ∀ W, Calls Tryd.prog 21 #[.int .u64 at_] W fun r w' => r = .returned (.int .i64 (first + ((j : Int) + 1))) ∧ W = w' := by
                have e : o = first + ((j : Int) + 1) := by omega
                rw [← e]; exact CO
              have HC := Lib.hid CO1
              have HE := Lib.hid CE
              have HE2 := Lib.hid CE2
              have hd : decide (e1 < ep) = false := decide_eq_false (by omega)
              have hd2 : decide (e1 < e2) = false := decide_eq_false (by omega)
              have hd3 : decide ((0 : Int) < (j : Int) + 1) = true := decide_eq_true (by omega)
              clear hep hle hT hT2 ho hee hee2 hof o0 o1 CO CE CE2 CO1 R2 hgg
              go_wp2_with fail
              go_quiet ((first | (go_at_call 21; exact still HC.out) | (go_at_call 22; with_reducible exact still HE.out) | (go_at_call 22; with_reducible exact still HE2.out)))
              go_wp2
              go_roundw
              case rel => exact ⟨j + 1 + 1, by omega, by go_num, Lib.hid (below_n HQ.out _)⟩
              case measure => simp [intOf]; omega
          · have hlt' : (l.length : Int) ≤ (k : Int) := by omega
            clear hlt
            go_wp2
            go_ret
            exact ⟨rfl, HW.out.trans (D3.out.trans (HQ.out.mono D3.out.size) |>.mono HW.out.size)⟩
      · obtain ⟨zs, hzy⟩ : ∃ zs, zs = ys := ⟨_, rfl⟩
        subst hzy
        obtain ⟨m, hmz⟩ : ∃ m, m = zs.length := ⟨_, rfl⟩
        have hmc : m ≤ cap' := by omega
        have hm2 : m ≤ 1140 := by have := hyl.out; omega
        have BZ : Hid (Bytes wr wr.heap.size A' zs) := Lib.hid HO.out.bytes
        rw [← hmz] at hcut ⊢
        clear hyo HO hyl
        by_cases hneg : cut < 0
        · clear hcut
          have SC := scan_any A' zs cap' first ep (by omega) (by omega) wr BZ.out
          have RS : Hid (∀ W, Below wr.heap.size wr W → Calls Tryd.prog 17 #[.slice A' m cap', .int .i64 first, .int .i64 ep] W (RScanPost W zs first ep)) := Lib.hid fun W hW => by
            rw [hmz]; exact rscan_any A' zs cap' first ep (by omega) (by omega) W ((BZ.out.below hW).more hW.size)
          have HT := Lib.hid (Sg.scV_tells zs.length zs first ep (Nat.le_refl _) BZ.out.byte)
          rw [← hmz] at SC
          have hlast : Hid ((Sg.scV zs first ep).2 ≤ m ∧ 16 * (Sg.scV zs first ep).1.length ≤ (Sg.scV zs first ep).2) := by
            have e := HT.out.1
            have e2 := HT.out.2.1
            exact ⟨by omega, e⟩
          have hm1 : (m : Int) ≤ 1140 := by omega
          clear hmz hmc hm2
          go_wp2_with fail
          refine SC.mono ?_; rintro e w4 ⟨l, A1, c1, h1, rfl, o1, d1⟩
          have O1 := Lib.hid o1
          have D1 := Lib.hid d1
          clear o1 d1 SC
          go_wp2_with fail
          refine (RS.out _ D1.out).mono ?_; rintro e w5 ⟨l2, A2, c2, h2, rfl, o2, d2⟩
          have D2 := Lib.hid (below_on D1.out d2)
          obtain rfl : l = l2 := h1.out.symm.trans h2.out
          have LL : l.length ≤ 1000000000 := by
            have := hlast.out
            rw [h1.out] at this
            omega
          have O2 := Lib.hid (O1.out.grew d2 (Nat.le_refl _))
          have RC := Lib.hid (recs_same A1 A2 c1 c2 wr.heap.size l LL w5 O2.out (OwnP.low o2 D1.out.size))
          have LL' : (l.length : Int) ≤ 1000000000 := by omega
          have HL := Lib.hid h1.out
          have hk2 : ((Sg.scV zs first ep).2 : Int) ≤ (m : Int) := by have := hlast.out; omega
          have HT1 := Lib.hid HT.out.2.2.1
          have HT2 := Lib.hid HT.out.2.2.2
          rw [HL.out] at HT1 HT2
          clear o2 d2 LL h1 h2 HT hlast O1 HL
          generalize (Sg.scV zs first ep).2 = kk at *
          go_wp2_with fail
          refine RC.out.mono ?_; rintro e w6 ⟨rfl, d3⟩
          have D3 := Lib.hid (below_on D2.out d3)
          have O3 := Lib.hid (O2.out.grew d3 (Nat.le_refl _))
          clear d3 RC O2
          go_wp2
          go_loopw [19] (fun iv wq => ∃ k : Nat, k ≤ l.length ∧ iv = .int .i64 k ∧ Hid (Below w6.heap.size w6 wq)) (fun iv _ => l.length - (intOf iv).toNat)
          case atStart => exact ⟨0, Nat.zero_le _, rfl, Lib.hid (Below.refl _ _)⟩
          case round =>
            obtain ⟨k, hk, rfl, HQ⟩ := hrel
            by_cases hlt : k < l.length
            · have hlt' : (k : Int) < (l.length : Int) := by omega
              have R1 := O3.out.grew HQ.out (Nat.le_refl _)
              obtain ⟨g, A3, c3, at_, p, rfl, hg, x0, x1, hb, he⟩ := R1.at_ hlt
              have hT := HT1.out k hlt
              rw [he.out] at hT
              obtain ⟨o, e1, ho, hee, o0, o1, e0', e1', CO, CE⟩ := parts_any at_ hT.2.2.1 hT.2.2.2
              have hof : o = first + (k : Int) := by rw [ho]; exact hT.1
              have hep : ep ≤ e1 := by rw [hee]; exact hT.2.1
              cases k with
              | zero =>
                have CO1 : ∀ W, Calls Tryd.prog 21 #[.int .u64 at_] W fun r w' => r = .returned (.int .i64 first) ∧ W = w' := by
                  have e : o = first := by omega
                  rw [← e]; exact CO
                have HC := Lib.hid CO1
                have HE := Lib.hid CE
                have hw1 : IntKind.i64.wrap first = first := IntWalk.i64_in _ (by omega)
                have hd : decide (e1 < ep) = false := decide_eq_false (by omega)
                clear hep hT ho hee hof o0 o1 CO CE CO1
                go_wp2_with fail
                go_quiet ((first | (go_at_call 21; exact still HC.out) | (go_at_call 22; exact still HE.out)))
                go_wp2
                go_roundw
                case rel => exact ⟨1, by omega, by go_num, Lib.hid (below_n HQ.out _)⟩
                case measure => simp [intOf]; omega
              | succ j =>
                have R2 := O3.out.grew HQ.out (Nat.le_refl _)
                obtain ⟨g2, A4, c4, at2, p2, hgg, hg2, y0, y1, hb2, he2⟩ := R2.at_ (i := j) (by omega)
                obtain rfl : g = g2 := by injection hgg with hgg; injection hgg
                have hT2 := HT1.out j (by omega)
                rw [he2.out] at hT2
                obtain ⟨oo, e2, _, hee2, _, _, e0'', e1'', _, CE2⟩ := parts_any at2 hT2.2.2.1 hT2.2.2.2
                have hle : e2 ≤ e1 := by
                  have := HT2.out j hlt
                  rw [he.out, he2.out] at this
                  rw [hee, hee2]; exact this
                have hw1 : IntKind.i64.wrap (first + ((j : Int) + 1)) = first + ((j : Int) + 1) := IntWalk.i64_in _ (by omega)
                have hl2 : (j : Int) + 1 < (l.length : Int) := by omega
                have hj2 : (j : Int) < (l.length : Int) := by omega
                have CO1 : ∀ W, Calls Tryd.prog 21 #[.int .u64 at_] W fun r w' => r = .returned (.int .i64 (first + ((j : Int) + 1))) ∧ W = w' := by
                  have e : o = first + ((j : Int) + 1) := by omega
                  rw [← e]; exact CO
                have HC := Lib.hid CO1
                have HE := Lib.hid CE
                have HE2 := Lib.hid CE2
                have hd : decide (e1 < ep) = false := decide_eq_false (by omega)
                have hd2 : decide (e1 < e2) = false := decide_eq_false (by omega)
                have hd3 : decide ((0 : Int) < (j : Int) + 1) = true := decide_eq_true (by omega)
                clear hep hle hT hT2 ho hee hee2 hof o0 o1 CO CE CE2 CO1 R2 hgg
                go_wp2_with fail
                go_quiet ((first | (go_at_call 21; exact still HC.out) | (go_at_call 22; with_reducible exact still HE.out) | (go_at_call 22; with_reducible exact still HE2.out)))
                go_wp2
                go_roundw
                case rel => exact ⟨j + 1 + 1, by omega, by go_num, Lib.hid (below_n HQ.out _)⟩
                case measure => simp [intOf]; omega
            · have hlt' : (l.length : Int) ≤ (k : Int) := by omega
              clear hlt
              go_wp2
              go_ret
              exact ⟨rfl, HW.out.trans (D3.out.trans (HQ.out.mono D3.out.size) |>.mono HW.out.size)⟩
        · have hge : (m : Int) ≤ cut := by omega
          have hpos : 0 ≤ cut := by omega
          clear hcut hneg
          have SC := scan_any A' zs cap' first ep (by omega) (by omega) wr BZ.out
          have RS : Hid (∀ W, Below wr.heap.size wr W → Calls Tryd.prog 17 #[.slice A' m cap', .int .i64 first, .int .i64 ep] W (RScanPost W zs first ep)) := Lib.hid fun W hW => by
            rw [hmz]; exact rscan_any A' zs cap' first ep (by omega) (by omega) W ((BZ.out.below hW).more hW.size)
          have HT := Lib.hid (Sg.scV_tells zs.length zs first ep (Nat.le_refl _) BZ.out.byte)
          rw [← hmz] at SC
          have hlast : Hid ((Sg.scV zs first ep).2 ≤ m ∧ 16 * (Sg.scV zs first ep).1.length ≤ (Sg.scV zs first ep).2) := by
            have e := HT.out.1
            have e2 := HT.out.2.1
            exact ⟨by omega, e⟩
          have hm1 : (m : Int) ≤ 1140 := by omega
          clear hmz hmc hm2
          go_wp2_with fail
          refine SC.mono ?_; rintro e w4 ⟨l, A1, c1, h1, rfl, o1, d1⟩
          have O1 := Lib.hid o1
          have D1 := Lib.hid d1
          clear o1 d1 SC
          go_wp2_with fail
          refine (RS.out _ D1.out).mono ?_; rintro e w5 ⟨l2, A2, c2, h2, rfl, o2, d2⟩
          have D2 := Lib.hid (below_on D1.out d2)
          obtain rfl : l = l2 := h1.out.symm.trans h2.out
          have LL : l.length ≤ 1000000000 := by
            have := hlast.out
            rw [h1.out] at this
            omega
          have O2 := Lib.hid (O1.out.grew d2 (Nat.le_refl _))
          have RC := Lib.hid (recs_same A1 A2 c1 c2 wr.heap.size l LL w5 O2.out (OwnP.low o2 D1.out.size))
          have LL' : (l.length : Int) ≤ 1000000000 := by omega
          have HL := Lib.hid h1.out
          have hk2 : ((Sg.scV zs first ep).2 : Int) ≤ (m : Int) := by have := hlast.out; omega
          have HT1 := Lib.hid HT.out.2.2.1
          have HT2 := Lib.hid HT.out.2.2.2
          rw [HL.out] at HT1 HT2
          clear o2 d2 LL h1 h2 HT hlast O1 HL
          generalize (Sg.scV zs first ep).2 = kk at *
          go_wp2_with fail
          refine RC.out.mono ?_; rintro e w6 ⟨rfl, d3⟩
          have D3 := Lib.hid (below_on D2.out d3)
          have O3 := Lib.hid (O2.out.grew d3 (Nat.le_refl _))
          clear d3 RC O2
          go_wp2
          go_loopw [19] (fun iv wq => ∃ k : Nat, k ≤ l.length ∧ iv = .int .i64 k ∧ Hid (Below w6.heap.size w6 wq)) (fun iv _ => l.length - (intOf iv).toNat)
          case atStart => exact ⟨0, Nat.zero_le _, rfl, Lib.hid (Below.refl _ _)⟩
          case round =>
            obtain ⟨k, hk, rfl, HQ⟩ := hrel
            by_cases hlt : k < l.length
            · have hlt' : (k : Int) < (l.length : Int) := by omega
              have R1 := O3.out.grew HQ.out (Nat.le_refl _)
              obtain ⟨g, A3, c3, at_, p, rfl, hg, x0, x1, hb, he⟩ := R1.at_ hlt
              have hT := HT1.out k hlt
              rw [he.out] at hT
              obtain ⟨o, e1, ho, hee, o0, o1, e0', e1', CO, CE⟩ := parts_any at_ hT.2.2.1 hT.2.2.2
              have hof : o = first + (k : Int) := by rw [ho]; exact hT.1
              have hep : ep ≤ e1 := by rw [hee]; exact hT.2.1
              cases k with
              | zero =>
                have CO1 : ∀ W, Calls Tryd.prog 21 #[.int .u64 at_] W fun r w' => r = .returned (.int .i64 first) ∧ W = w' := by
                  have e : o = first := by omega
                  rw [← e]; exact CO
                have HC := Lib.hid CO1
                have HE := Lib.hid CE
                have hw1 : IntKind.i64.wrap first = first := IntWalk.i64_in _ (by omega)
                have hd : decide (e1 < ep) = false := decide_eq_false (by omega)
                clear hep hT ho hee hof o0 o1 CO CE CO1
                go_wp2_with fail
                go_quiet ((first | (go_at_call 21; exact still HC.out) | (go_at_call 22; exact still HE.out)))
                go_wp2
                go_roundw
                case rel => exact ⟨1, by omega, by go_num, Lib.hid (below_n HQ.out _)⟩
                case measure => simp [intOf]; omega
              | succ j =>
                have R2 := O3.out.grew HQ.out (Nat.le_refl _)
                obtain ⟨g2, A4, c4, at2, p2, hgg, hg2, y0, y1, hb2, he2⟩ := R2.at_ (i := j) (by omega)
                obtain rfl : g = g2 := by injection hgg with hgg; injection hgg
                have hT2 := HT1.out j (by omega)
                rw [he2.out] at hT2
                obtain ⟨oo, e2, _, hee2, _, _, e0'', e1'', _, CE2⟩ := parts_any at2 hT2.2.2.1 hT2.2.2.2
                have hle : e2 ≤ e1 := by
                  have := HT2.out j hlt
                  rw [he.out, he2.out] at this
                  rw [hee, hee2]; exact this
                have hw1 : IntKind.i64.wrap (first + ((j : Int) + 1)) = first + ((j : Int) + 1) := IntWalk.i64_in _ (by omega)
                have hl2 : (j : Int) + 1 < (l.length : Int) := by omega
                have hj2 : (j : Int) < (l.length : Int) := by omega
                have CO1 : ∀ W, Calls Tryd.prog 21 #[.int .u64 at_] W fun r w' => r = .returned (.int .i64 (first + ((j : Int) + 1))) ∧ W = w' := by
                  have e : o = first + ((j : Int) + 1) := by omega
                  rw [← e]; exact CO
                have HC := Lib.hid CO1
                have HE := Lib.hid CE
                have HE2 := Lib.hid CE2
                have hd : decide (e1 < ep) = false := decide_eq_false (by omega)
                have hd2 : decide (e1 < e2) = false := decide_eq_false (by omega)
                have hd3 : decide ((0 : Int) < (j : Int) + 1) = true := decide_eq_true (by omega)
                clear hep hle hT hT2 ho hee hee2 hof o0 o1 CO CE CE2 CO1 R2 hgg
                go_wp2_with fail
                go_quiet ((first | (go_at_call 21; exact still HC.out) | (go_at_call 22; with_reducible exact still HE.out) | (go_at_call 22; with_reducible exact still HE2.out)))
                go_wp2
                go_roundw
                case rel => exact ⟨j + 1 + 1, by omega, by go_num, Lib.hid (below_n HQ.out _)⟩
                case measure => simp [intOf]; omega
            · have hlt' : (l.length : Int) ≤ (k : Int) := by omega
              clear hlt
              go_wp2
              go_ret
              exact ⟨rfl, HW.out.trans (D3.out.trans (HQ.out.mono D3.out.size) |>.mono HW.out.size)⟩
theorem scans_all (first ep cut : Int) (A : Option Addr) (ms : List Mk) (cap : Nat) (f0 : -9223372036854775808 ≤ first) (f1 : first ≤ 9223372036854775807) (w : World) (hm : Marks w w.heap.size A ms) (hF : Facts w) :
    Calls Tryd.prog 5 #[.slice A ms.length cap, .int .i64 first, .int .i64 ep, .int .i64 cut] w fun e w' => e = .returned (.bool true) ∧ Below w.heap.size w w' := by
  by_cases h : ms.length ≤ 15
  · exact scans_walk first ep cut A ms cap h w hm (Lib.hid hF) f0 f1
  · exact scans_many first ep cut A _ cap (by omega) w (Lib.hid hF)
end Go.Proofs.YtlaomaefhanacaaDoor
