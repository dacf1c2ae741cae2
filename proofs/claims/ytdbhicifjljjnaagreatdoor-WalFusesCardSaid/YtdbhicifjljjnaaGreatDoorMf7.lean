/-
  Part 7 of the texts behind the law: SegScan.
-/
import Derived.Test.YtdbhicifjljjnaaGreatDoorMf5
import Derived.Test.YtdbhicifjljjnaaGreatDoorMf6
import Derived.Test.YtdbhicifjljjnaaGreatDoorMf4
/-
  seg.Scan at every argument: the records whose offsets go on, in rows of the call's own, and how far they go.
-/
namespace Go.Proofs.YtdbhicifjljjnaaGreatDoor
open Go.RowKit

def ScanPost (w : World) (zs : List Int) (first ep : Int) (e : Ending) (w' : World) : Prop :=
  ∃ l A cap, Hid ((Sg.scV zs first ep).1 = l) ∧ e = .returned (.tuple #[.slice A l.length cap, .int .i64 ((Sg.scV zs first ep).2 : Nat)]) ∧ OwnR w' w.heap.size A cap l ∧ Below w.heap.size w w'
theorem ScanPost.mk_ {w w' : World} {zs : List Int} {first ep : Int} {l : List Fr.Rc} {n : Nat} {A : Option Addr} {cap : Nat} (h : (Sg.scV zs first ep).1 = l ∧ (Sg.scV zs first ep).2 = n) (ho : OwnR w' w.heap.size A cap l) (hb : Below w.heap.size w w') :
    ScanPost w zs first ep (.returned (.tuple #[.slice A l.length cap, .int .i64 (n : Int)])) w' :=
  ⟨l, A, cap, Lib.hid h.1, by rw [h.2], ho, hb⟩
/-- What the two calls on a stamp return. -/
theorem parts_any (s : Int) (h0 : 0 ≤ s) (h1 : s < 18446744073709551616) : ∃ o e : Int, o = Pl.offV s ∧ e = Pl.epochV s ∧ 0 ≤ o ∧ o ≤ 17592186044415 ∧ 0 ≤ e ∧ e ≤ 1048575 ∧
    (∀ w, Calls Tryz.prog 27 #[.int .u64 s] w fun r w' => r = .returned (.int .i64 o) ∧ w = w') ∧ (∀ w, Calls Tryz.prog 21 #[.int .u64 s] w fun r w' => r = .returned (.int .i64 e) ∧ w = w') :=
  ⟨_, _, rfl, rfl, by unfold Pl.offV; omega, by unfold Pl.offV; omega, by unfold Pl.epochV; omega, by unfold Pl.epochV; omega, fun w => stOff_any s h0 h1 w, fun w => epoch_any s h0 h1 w⟩
theorem atG_range {zs : List Int} (hb : Fr.Byte zs) (h : Fr.errG zs = 0) : 0 ≤ Fr.atG zs ∧ Fr.atG zs < 18446744073709551616 := by
  have hk := Fr.errG_ok hb h
  refine ⟨Fr.valB_nonneg ((hb.drop 4).take 8), ?_⟩
  have := Fr.valB_lt ((hb.drop 4).take 8)
  rw [List.length_take, List.length_drop, Nat.min_eq_left (by omega)] at this
  exact this
set_option maxHeartbeats 4000000 in
set_option maxRecDepth 20000 in
theorem scan_any (A : Option Addr) (zs : List Int) (cap : Nat) (first ep : Int) (hl : zs.length ≤ 1000000000) (hc : zs.length ≤ cap) (w : World) (hb : Bytes w w.heap.size A zs) :
    Calls Tryz.prog 66 #[.slice A zs.length cap, .int .i64 first, .int .i64 ep] w (ScanPost w zs first ep) := by
  have HB := Lib.hid hb
  have hl' : (zs.length : Int) ≤ 1000000000 := by omega
  clear hb
  go_enter Tryz.func66, Tryz.ntmps66
  go_wp2
  go_loopw [1, 2, 6, 7] (fun fv ev lv nv wr => ∃ (k : Nat) (f e : Int) (l : List Fr.Rc) (A' : Option Addr) (cap' : Nat), Hid (Sg.ScanAt zs first ep k l f e) ∧ fv = .int .i64 f ∧ ev = .int .i64 e ∧ nv = .int .i64 k ∧ lv = .slice A' l.length cap' ∧ Hid (OwnR wr w.heap.size A' cap' l) ∧ Hid (Below w.heap.size w wr)) (fun _ _ _ nv _ => zs.length - (intOf nv).toNat)
  case atStart => exact ⟨0, first, ep, [], none, 0, Lib.hid (Sg.ScanAt.start zs first ep), rfl, rfl, rfl, rfl, Lib.hid (OwnR.none_ _ _), Lib.hid (Below.refl _ _)⟩
  case round =>
    obtain ⟨k, f, e0, l, A', cap', HA, rfl, rfl, rfl, rfl, HO, HW⟩ := hrel
    have hk : k ≤ zs.length := HA.out.1
    have hk' : (k : Int) ≤ (zs.length : Int) := by omega
    have hsl := slice_from A zs.length cap k (by omega) .i64
    have G0 := get_any (tailA A cap k) (zs.drop k) (cap - k) (by rw [List.length_drop]; omega) (by rw [List.length_drop]; omega) wr (((HB.out.below HW.out).tail k cap hc).more HW.out.size)
    rw [List.length_drop] at G0
    by_cases he : Fr.errG (zs.drop k) = 0
    · have HR := atG_range (HB.out.byte.drop k) he
      obtain ⟨o, e1, ho, hee, o0, o1, e0', e1', CO, CE⟩ := parts_any _ HR.1 HR.2
      have hok := Fr.errG_ok (HB.out.byte.drop k) he
      have hsz : Hid (k + Fr.sizeG (zs.drop k) ≤ zs.length ∧ 0 < Fr.sizeG (zs.drop k) ∧ l.length ≤ 1000000000) := by
        have h1 := hok.2.2.2.1
        rw [List.length_drop] at h1
        have h2 := HA.out.2.1
        exact ⟨by omega, Fr.sizeG_pos _, by omega⟩
      have HN : Hid (o = f → e0 ≤ e1 → Sg.ScanAt zs first ep (k + Fr.sizeG (zs.drop k)) (l ++ [(Fr.atG (zs.drop k), Fr.payG (zs.drop k))]) (f + 1) e1) := Lib.hid fun h1 h2 => by
        rw [hee]
        exact HA.out.next HB.out.byte ⟨he, by rw [← ho]; exact h1, by rw [← hee]; exact h2⟩
      have HS : Hid (¬ (o = f ∧ e0 ≤ e1) → (Sg.scV zs first ep).1 = l ∧ (Sg.scV zs first ep).2 = k) := Lib.hid fun h1 => HA.out.stop fun q => h1 ⟨by rw [ho]; exact q.2.1, by rw [hee]; exact q.2.2⟩
      rw [he, Fr.getA_ok he, Fr.getP_ok he, Fr.getN_ok he] at G0
      have G := Lib.hid G0
      clear G0 he hok HR ho hee
      generalize Fr.atG (zs.drop k) = at_ at *
      generalize Fr.sizeG (zs.drop k) = sz at *
      have hs1 : (k : Int) + (sz : Int) ≤ (zs.length : Int) := by have := hsz.out.1; omega
      go_wp2_with fail
      refine G.out.mono ?_; rintro e w1 ⟨ps, A2, c2, hps, rfl, hob, hb1⟩
      rw [← hps.out] at HN
      have OB := Lib.hid hob
      have B1 := Lib.hid hb1
      clear hob hb1 G
      have hs2 := HW.out.size
      have hs3 := B1.out.size
      by_cases hof : o = f
      · by_cases hep : e0 ≤ e1
        · have HN2 := Lib.hid (HN.out hof hep)
          clear HN HS
          subst hof
          obtain ⟨vs, hvl, hop, hrv⟩ := HO.out
          have VL := Lib.hid hvl
          have OP := Lib.hid hop
          have RV := Lib.hid hrv
          clear hvl hop hrv
          have B2 : Hid (Below wr.heap.size wr ((w1.alloc (.cells #[.int .u64 at_, .slice A2 ps.length c2] 40)).alloc (.cells #[.int .u64 at_, .slice A2 ps.length c2] 40))) := (B1.out.alloc hs3 _).alloc (by simp; omega) _
          have B3 : Hid (Below w1.heap.size w1 ((w1.alloc (.cells #[.int .u64 at_, .slice A2 ps.length c2] 40)).alloc (.cells #[.int .u64 at_, .slice A2 ps.length c2] 40))) := ((Below.refl _ _).alloc (Nat.le_refl _) _).alloc (by simp) _
          have X2 : Hid (((w1.alloc (.cells #[.int .u64 at_, .slice A2 ps.length c2] 40)).alloc (.cells #[.int .u64 at_, .slice A2 ps.length c2] 40)).heap[w1.heap.size]? = some (.cells #[.int .u64 at_, .slice A2 ps.length c2] 40 (0, 0))) := by
            show _ = _
            rw [Below.heap_alloc _ _ _ (by simp)]
            exact heap_alloc_new w1 _
          have NB : Hid (∀ n, some w1.heap.size ≠ (Value.slice A' n cap').ownBlock) := Lib.hid fun n e => by
            cases A' with
            | none => cases e
            | some a =>
              simp [Value.ownBlock] at e
              have := OP.out.lt
              omega
          go_wp2_with (first
            | (go_at_call 27; refine (CO _).mono ?_; rintro e w' ⟨rfl, rfl⟩)
            | (go_at_call 21; refine (CE _).mono ?_; rintro e w' ⟨rfl, rfl⟩)
            | (at_builtin; refine wp_appP2 rfl (.tmp 37) (.tmp 39) rfl Tryz.underlying29 rec_info rfl (by decide) rfl VL.out.symm (OP.out.grew B2.out (Nat.le_refl _)) (Nat.le_trans hs2 B2.out.size) rfl (obj2P (second_new w1 _ _)).1 (obj2P (second_new w1 _ _)).2 rfl rfl (by rw [VL.out]; exact hsz.out.2.2) ?_; intro A3 c3 w3 o3 d3; have O3 := Lib.hid o3; have D3 := Lib.hid d3; clear o3 d3; have X3 := (D3.out.block w1.heap.size (lt_of_block X2.out) (NB.out _)).trans X2.out; have x0 := (obj2P X3).1; have x1 := (obj2P X3).2; clear X3))
          go_roundw
          case rel =>
            have OP2 := OP.out.grew B2.out (Nat.le_refl _)
            have hb2 := Nat.le_trans hs2 B2.out.size
            have BB := grown_below OP2 hb2 D3.out
            have kept : ∀ {b2 : Nat} {Aq : Option Addr} {cq : Nat} {zq : List Int}, OwnB wr b2 Aq cq zq → OwnB w3 b2 Aq cq zq := fun h => OwnB.grown (h.grew B2.out (Nat.le_refl _)) OP2 (by decide) D3.out
            refine ⟨k + sz, _, _, _, A3, c3, HN2, rfl, rfl, by go_num, by simp [VL.out], Lib.hid (OwnR.snoc VL.out (fun i hi => ?_) ((OwnB.grown (OB.out.grew B3.out (Nat.le_refl _)) OP2 (by decide) D3.out).low hs2) O3.out), Lib.hid ((HW.out.trans (B2.out.mono hs2)).trans BB)⟩
            obtain ⟨r1, Aq, cq, r2, r3⟩ := RV.out i hi
            exact ⟨r1, Aq, cq, r2, kept r3⟩
          case measure => have := hsz.out; simp [intOf]; omega
        · have E := Lib.hid (HS.out (fun q => hep q.2))
          have hep' : e1 < e0 := by omega
          clear HN HS hep
          subst hof
          go_wp2_with (first | (go_at_call 27; refine (CO _).mono ?_; rintro e w' ⟨rfl, rfl⟩) | (go_at_call 21; refine (CE _).mono ?_; rintro e w' ⟨rfl, rfl⟩))
          go_ret2
          have B2 := (B1.out.alloc hs3 (.cells #[.int .u64 at_, .slice A2 ps.length c2] 40))
          exact ScanPost.mk_ E.out (HO.out.grew B2 (Nat.le_refl _)) (HW.out.trans (B2.mono hs2))
      · have E := Lib.hid (HS.out (fun q => hof q.1))
        clear HN HS
        go_wp2_with (first | (go_at_call 27; refine (CO _).mono ?_; rintro e w' ⟨rfl, rfl⟩) | (go_at_call 21; refine (CE _).mono ?_; rintro e w' ⟨rfl, rfl⟩))
        go_ret2
        have B2 := (B1.out.alloc hs3 (.cells #[.int .u64 at_, .slice A2 ps.length c2] 40))
        exact ScanPost.mk_ E.out (HO.out.grew B2 (Nat.le_refl _)) (HW.out.trans (B2.mono hs2))
    · have E := Lib.hid (HA.out.stop (fun q => he q.1))
      rw [Fr.getA_bad he, Fr.getP_bad he, Fr.getN_bad he] at G0
      have he' : (Fr.errG (zs.drop k) != 0) = true := by simpa using he
      have G := Lib.hid G0
      clear G0 he
      generalize Fr.errG (zs.drop k) = er at *
      go_wp2_with fail
      refine G.out.mono ?_; rintro e w1 ⟨ps, A2, c2, hps, rfl, hob, hb1⟩
      have B1 := Lib.hid hb1
      clear hob hb1 G
      have hs2 := HW.out.size
      have hs3 := B1.out.size
      go_wp2
      go_ret2
      have B2 := (B1.out.alloc hs3 (.cells #[.int .u64 0, .slice A2 ps.length c2] 40))
      exact ScanPost.mk_ E.out (HO.out.grew B2 (Nat.le_refl _)) (HW.out.trans (B2.mono hs2))
end Go.Proofs.YtdbhicifjljjnaaGreatDoor
