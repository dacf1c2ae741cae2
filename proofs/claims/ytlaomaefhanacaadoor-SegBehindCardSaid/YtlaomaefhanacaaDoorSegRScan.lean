/-
  The reference's Scan at every argument, and the law's own comparison of the two rows of records.
-/
import Derived.Test.YtlaomaefhanacaaDoorRefRows
import Derived.Test.YtlaomaefhanacaaDoorSegScan
namespace Go.Proofs.YtlaomaefhanacaaDoor
open Go.RowKit
theorem roff_any (s : Int) (h0 : 0 ≤ s) (h1 : s < 18446744073709551616) (w : World) :
    Calls Tryd.prog 32 #[.int .u64 s] w fun e w' => e = .returned (.int .i64 (Pl.offV s)) ∧ w = w' := by
  go_enter Tryd.func32, Tryd.ntmps32
  go_wp2
  go_ret
  exact ⟨rfl, rfl⟩
theorem repoch_any (s : Int) (h0 : 0 ≤ s) (h1 : s < 18446744073709551616) (w : World) :
    Calls Tryd.prog 33 #[.int .u64 s] w fun e w' => e = .returned (.int .i64 (Pl.epochV s)) ∧ w = w' := by
  go_enter Tryd.func33, Tryd.ntmps33
  go_wp2
  go_ret
  exact ⟨rfl, rfl⟩
def RScanPost (w : World) (zs : List Int) (first ep : Int) (e : Ending) (w' : World) : Prop :=
  ∃ l A cap, Hid ((Sg.scV zs first ep).1 = l) ∧ e = .returned (.tuple #[.slice A l.length cap, .int .i64 ((Sg.scV zs first ep).2 : Nat)]) ∧ OwnP w' w.heap.size 71 A cap (l.map valR) ∧ Below w.heap.size w w'
theorem RScanPost.mk_ {w w' : World} {zs : List Int} {first ep : Int} {l : List Fr.Rc} {n : Nat} {A : Option Addr} {cap : Nat} (h : (Sg.scV zs first ep).1 = l ∧ (Sg.scV zs first ep).2 = n) (ho : OwnP w' w.heap.size 71 A cap (l.map valR)) (hb : Below w.heap.size w w') :
    RScanPost w zs first ep (.returned (.tuple #[.slice A l.length cap, .int .i64 (n : Int)])) w' :=
  ⟨l, A, cap, Lib.hid h.1, by rw [h.2], ho, hb⟩
theorem rparts_any (s : Int) (h0 : 0 ≤ s) (h1 : s < 18446744073709551616) : ∃ o e : Int, o = Pl.offV s ∧ e = Pl.epochV s ∧ 0 ≤ o ∧ o ≤ 17592186044415 ∧ 0 ≤ e ∧ e ≤ 1048575 ∧
    (∀ w, Calls Tryd.prog 32 #[.int .u64 s] w fun r w' => r = .returned (.int .i64 o) ∧ w = w') ∧ (∀ w, Calls Tryd.prog 33 #[.int .u64 s] w fun r w' => r = .returned (.int .i64 e) ∧ w = w') :=
  ⟨_, _, rfl, rfl, by unfold Pl.offV; omega, by unfold Pl.offV; omega, by unfold Pl.epochV; omega, by unfold Pl.epochV; omega, fun w => roff_any s h0 h1 w, fun w => repoch_any s h0 h1 w⟩
set_option maxHeartbeats 4000000 in
set_option maxRecDepth 20000 in
theorem rscan_any (A : Option Addr) (zs : List Int) (cap : Nat) (first ep : Int) (hl : zs.length ≤ 1000000000) (hc : zs.length ≤ cap) (w : World) (hb : Bytes w w.heap.size A zs) :
    Calls Tryd.prog 17 #[.slice A zs.length cap, .int .i64 first, .int .i64 ep] w (RScanPost w zs first ep) := by
  have HB := Lib.hid hb
  have hl' : (zs.length : Int) ≤ 1000000000 := by omega
  clear hb
  go_enter Tryd.func17, Tryd.ntmps17
  go_wp2
  go_loopw [1, 2, 8, 9] (fun fv ev lv nv wr => ∃ (k : Nat) (f e : Int) (l : List Fr.Rc) (A' : Option Addr) (cap' : Nat), Hid (Sg.ScanAt zs first ep k l f e) ∧ fv = .int .i64 f ∧ ev = .int .i64 e ∧ nv = .int .i64 k ∧ lv = .slice A' l.length cap' ∧ Hid (OwnP wr w.heap.size 71 A' cap' (l.map valR)) ∧ Hid (Below w.heap.size w wr)) (fun _ _ _ nv _ => zs.length - (intOf nv).toNat)
  case atStart => exact ⟨0, first, ep, [], none, 0, Lib.hid (Sg.ScanAt.start zs first ep), rfl, rfl, rfl, rfl, Lib.hid (OwnP.none_ _ _ _), Lib.hid (Below.refl _ _)⟩
  case round =>
    obtain ⟨k, f, e0, l, A', cap', HA, rfl, rfl, rfl, rfl, HO, HW⟩ := hrel
    have hk : k ≤ zs.length := HA.out.1
    have ML := Lib.hid (show (l.map valR).length = l.length by simp)
    by_cases hlt : k < zs.length
    · have hlt' : (k : Int) < (zs.length : Int) := by omega
      have hsl := slice_from A zs.length cap k (by omega) .i64
      have G0 := rget_any (tailA A cap k) (zs.drop k) (cap - k) (by rw [List.length_drop]; omega) (by rw [List.length_drop]; omega) wr (((HB.out.below HW.out).tail k cap hc).more HW.out.size)
      rw [List.length_drop] at G0
      clear hk
      by_cases he : Fr.errG (zs.drop k) = 0
      · have HR := atG_range (HB.out.byte.drop k) he
        obtain ⟨o, e1, ho, hee, o0, o1, e0', e1', CO, CE⟩ := rparts_any _ HR.1 HR.2
        have hok := Fr.errG_ok (HB.out.byte.drop k) he
        have hsz : Hid (k + Fr.sizeG (zs.drop k) ≤ zs.length ∧ 0 < Fr.sizeG (zs.drop k) ∧ l.length ≤ 1000000000) := by
          have h1 := hok.2.2.2.1
          rw [List.length_drop] at h1
          have h2 := HA.out.2.1
          exact ⟨by omega, Fr.sizeG_pos _, by omega⟩
        have HN : Hid (o = f → e0 ≤ e1 → Sg.ScanAt zs first ep (k + Fr.sizeG (zs.drop k)) (l ++ [(Fr.atG (zs.drop k), Fr.payG (zs.drop k))]) (f + 1) e1) := Lib.hid fun h1 h2 => by
          rw [hee]
          exact HA.out.next HB.out.byte ⟨he, by rw [← ho]; exact h1, by rw [← hee]; exact h2⟩
        have HS : Hid (¬ (o = f ∧ e0 ≤ e1) → (Sg.scV zs first ep).1 = l ∧ (Sg.scV zs first ep).2 = k) := Lib.hid fun h1 => HA.out.stop fun q => h1 ⟨by rw [ho]; exact q.2.1, by rw [hee]; exact q.2.2⟩
        rw [he, Fr.getA_ok he, Fr.getP_ok he, Fr.getN_ok he] at G0
        have G := Lib.hid G0
        clear G0 he hok HR ho hee
        generalize Fr.atG (zs.drop k) = at_ at *
        generalize Fr.sizeG (zs.drop k) = sz at *
        generalize Fr.payG (zs.drop k) = ps at *
        have hs1 : (k : Int) + (sz : Int) ≤ (zs.length : Int) := by have := hsz.out.1; omega
        have EV : Hid (l.map valR ++ [(.int .u64 at_, .string (strOfNums ps))] = (l ++ [(at_, ps)]).map valR) := by show _ = _; rw [List.map_append]; rfl
        go_wp2_with fail
        refine G.out.mono ?_; rintro e w1 ⟨rfl, hb1⟩
        have B1 := Lib.hid hb1
        clear hb1 G
        have hs2 := HW.out.size
        have hs3 := B1.out.size
        generalize strOfNums ps = st at *
        by_cases hof : o = f
        · by_cases hep : e0 ≤ e1
          · have HN2 := Lib.hid (HN.out hof hep)
            clear HN HS
            subst hof
            have B2 : Hid (Below wr.heap.size wr ((w1.alloc (.cells #[.int .u64 at_, .string st] 71)).alloc (.cells #[.int .u64 at_, .string st] 71))) := (B1.out.alloc hs3 _).alloc (by simp; omega) _
            have X2 : Hid (((w1.alloc (.cells #[.int .u64 at_, .string st] 71)).alloc (.cells #[.int .u64 at_, .string st] 71)).heap[w1.heap.size]? = some (.cells #[.int .u64 at_, .string st] 71 (0, 0))) := by
              show _ = _
              rw [Below.heap_alloc _ _ _ (by simp)]
              exact heap_alloc_new w1 _
            have NB : Hid (∀ n, some w1.heap.size ≠ (Value.slice A' n cap').ownBlock) := Lib.hid fun n e => by
              cases A' with
              | none => cases e
              | some a =>
                simp [Value.ownBlock] at e
                have := HO.out.lt
                omega
            go_wp2_with (first
              | (go_at_call 32; refine (CO _).mono ?_; rintro e w' ⟨rfl, rfl⟩)
              | (go_at_call 33; refine (CE _).mono ?_; rintro e w' ⟨rfl, rfl⟩)
              | (at_builtin; refine wp_app2 rfl (.tmp 41) (.tmp 43) rfl Tryd.underlying40 rrec_info rfl (by decide) rfl ML.out.symm (HO.out.grew B2.out (Nat.le_refl _)) (Nat.le_trans hs2 B2.out.size) rfl (obj2 (second_new w1 _ _)).1 (obj2 (second_new w1 _ _)).2 rfl rfl (by rw [ML.out]; exact hsz.out.2.2) ?_; intro A3 c3 w3 o3 d3; have O3 := Lib.hid o3; have D3 := Lib.hid d3; clear o3 d3; have X3 := (D3.out.block w1.heap.size (lt_of_block X2.out) (NB.out _)).trans X2.out; have x0 := (obj2 X3).1; have x1 := (obj2 X3).2; clear X3))
            go_roundw
            case rel =>
              have OP2 := HO.out.grew B2.out (Nat.le_refl _)
              have hb2 := Nat.le_trans hs2 B2.out.size
              have BB := grown_below OP2 hb2 D3.out
              exact ⟨k + sz, _, _, _, A3, c3, HN2, rfl, rfl, by go_num, by simp, Lib.hid (by rw [← EV.out]; exact O3.out), Lib.hid ((HW.out.trans (B2.out.mono hs2)).trans BB)⟩
            case measure => have := hsz.out; simp [intOf]; omega
          · have E := Lib.hid (HS.out (fun q => hep q.2))
            have hep' : e1 < e0 := by omega
            clear HN HS hep
            subst hof
            go_wp2_with (first | (go_at_call 32; refine (CO _).mono ?_; rintro e w' ⟨rfl, rfl⟩) | (go_at_call 33; refine (CE _).mono ?_; rintro e w' ⟨rfl, rfl⟩))
            go_ret2
            have B2 := (B1.out.alloc hs3 (.cells #[.int .u64 at_, .string st] 71))
            exact RScanPost.mk_ E.out (HO.out.grew B2 (Nat.le_refl _)) (HW.out.trans (B2.mono hs2))
        · have E := Lib.hid (HS.out (fun q => hof q.1))
          clear HN HS
          go_wp2_with (first | (go_at_call 32; refine (CO _).mono ?_; rintro e w' ⟨rfl, rfl⟩) | (go_at_call 33; refine (CE _).mono ?_; rintro e w' ⟨rfl, rfl⟩))
          go_ret2
          have B2 := (B1.out.alloc hs3 (.cells #[.int .u64 at_, .string st] 71))
          exact RScanPost.mk_ E.out (HO.out.grew B2 (Nat.le_refl _)) (HW.out.trans (B2.mono hs2))
      · have E := Lib.hid (HA.out.stop (fun q => he q.1))
        rw [Fr.getA_bad he, Fr.getP_bad he, Fr.getN_bad he] at G0
        have he' : (Fr.errG (zs.drop k) != 0) = true := by simpa using he
        have G := Lib.hid G0
        clear G0 he
        generalize Fr.errG (zs.drop k) = er at *
        go_wp2_with fail
        refine G.out.mono ?_; rintro e w1 ⟨rfl, hb1⟩
        have B1 := Lib.hid hb1
        clear hb1 G
        have hs2 := HW.out.size
        have hs3 := B1.out.size
        go_wp2
        go_ret2
        have B2 := (B1.out.alloc hs3 (.cells #[.int .u64 0, .string (strOfNums [])] 71))
        exact RScanPost.mk_ E.out (HO.out.grew B2 (Nat.le_refl _)) (HW.out.trans (B2.mono hs2))
    · have E := Lib.hid (HA.out.stop (fun q => by have := Sg.okS_len q; rw [List.length_drop] at this; omega))
      have hlt' : (zs.length : Int) ≤ (k : Int) := by omega
      clear hk
      go_wp2
      go_ret2
      exact RScanPost.mk_ E.out HO.out HW.out

/-! ### recs -/
set_option maxHeartbeats 4000000 in
theorem recs_same (A A2 : Option Addr) (cap cap2 base : Nat) (l : List Fr.Rc) (hl : l.length ≤ 1000000000) (w : World) (h : OwnR w base A cap l) (h2 : OwnP w base 71 A2 cap2 (l.map valR)) :
    Calls Tryd.prog 18 #[.slice A l.length cap, .slice A2 l.length cap2] w fun e w' => e = .returned (.bool true) ∧ Below w.heap.size w w' := by
  have H1 := Lib.hid h
  have H2 := Lib.hid h2
  have hl' : (l.length : Int) ≤ 1000000000 := by omega
  clear h h2
  go_enter Tryd.func18, Tryd.ntmps18
  go_wp2
  go_loopw [5] (fun iv wr => ∃ k : Nat, k ≤ l.length ∧ iv = .int .i64 k ∧ Below w.heap.size w wr) (fun iv _ => l.length - (intOf iv).toNat)
  case atStart => exact ⟨0, Nat.zero_le _, rfl, Below.refl _ _⟩
  case round =>
    obtain ⟨k, hk, rfl, hbel⟩ := hrel
    have HW := Lib.hid hbel
    clear hbel
    by_cases hlt : k < l.length
    · have hlt' : (k : Int) < (l.length : Int) := by omega
      have R1 := H1.out.grew HW.out (Nat.le_refl _)
      have R2 := H2.out.grew HW.out (Nat.le_refl _)
      obtain ⟨g, A3, c3, at_, p, rfl, hg, c0, c1, hb, he⟩ := R1.at_ hlt
      obtain ⟨g2, rfl, hg2, d0, d1⟩ := ownRef_at R2 hlt he.out
      clear R1 R2
      have cv := fun n => conv_str (w := wr.drewN n) (hb.out.keep fun _ _ _ => rfl) c3
      generalize strOfNums p = st at *
      go_wp2_with fail
      go_quiet (fail)
      go_wp2
      go_roundw
      case rel => exact ⟨k + 1, by omega, by go_num, below_n HW.out _⟩
      case measure => simp [intOf]; omega
    · have hlt' : (l.length : Int) ≤ (k : Int) := by omega
      go_wp2
      go_ret
      exact ⟨rfl, HW.out⟩
end Go.Proofs.YtlaomaefhanacaaDoor
