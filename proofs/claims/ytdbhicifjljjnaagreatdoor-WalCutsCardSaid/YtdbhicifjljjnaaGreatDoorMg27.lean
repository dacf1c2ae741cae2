/-
  Part 27 of the texts behind the law: WalLoad, WalMut, WalDelete, WalShort.
-/
import Derived.Test.YtdbhicifjljjnaaGreatDoorMg26
import Derived.Deep.LoopGhost
import Derived.Deep.RegionLaw
import Derived.Deep.RegionWith
/-
  load: the segments are read as far as they form a log, the rest of them is removed.
-/
namespace Go.Proofs.YtdbhicifjljjnaaGreatDoor
open Go.RowKit St
theorem Nums.tail {w : World} {B : Nat} {A : Option Addr} {zs : List Int} (h : Nums w B A zs) (k cap : Nat) (hc : zs.length ≤ cap) : Nums w B (tailA A cap k) (zs.drop k) := by
  have hg : ∀ i, i < (zs.drop k).length → (zs.drop k).getD i 0 = zs.getD (k + i) 0 ∧ k + i < zs.length := fun i hi => by
    simp at hi
    rw [List.getD_eq_getElem?_getD, List.getD_eq_getElem?_getD, List.getElem?_drop]
    exact ⟨rfl, by omega⟩
  refine ⟨fun i hi => by rw [(hg i hi).1]; exact h.1 _ (hg i hi).2, fun hn => ?_⟩
  have hk := (hg 0 hn).2
  obtain ⟨b, off, rfl, hb, hcell⟩ := h.2 (by omega)
  refine ⟨b, off + k, ?_, hb, fun i hi => ?_⟩
  · unfold tailA
    rw [if_neg (by omega)]
    show some (Addr.add ⟨b, off, none⟩ k) = _
    rw [add_off]
  · rw [(hg i hi).1, Nat.add_assoc]
    exact hcell _ (hg i hi).2
theorem size1I (W : World) : (sizeOf 2).run Tryz.prog W = .ok 1 W := by kernel_rfl
theorem elemI : Tryz.prog.elem 83 = 2 := by kernel_rfl
theorem undI : Tryz.prog.underlying 83 = some (.slice (Tryz.prog.elem 83)) := by rw [elemI]; exact Tryz.underlying83
theorem slice_fromI (A : Option Addr) (n cap k : Nat) (h : k ≤ n) (ik : IntKind) (W : World) :
    (Instr.slice 83 (.slice A n cap) (some (.int ik (k : Int))) none none).run Tryz.prog W = .ok (.slice (tailA A cap k) (n - k) (cap - k)) W := by
  rw [run_slice_l (P := Tryz.prog) (w := W) 83 A n cap undI ik k (by omega) (by omega), elemI, size1I]
  simp [Result.andThen, sliced, tailA]
def loadF : List Int → S → Wl.L → Bool → S × Wl.L × List Int
  | [], s, l, _ => (s, l, [])
  | f :: r, s, l, b => if b = true ∧ (l.segs.length = 0 ∨ f = Wl.endV l) then loadF r (ldS s l f) (ldL s l f) (decide (ldN s l f = (ldZ s f).length)) else (s, l, f :: r)
def okF : List Int → S → Wl.L → Bool → Prop
  | [], _, _, _ => True
  | f :: r, s, l, b => if b = true ∧ (l.segs.length = 0 ∨ f = Wl.endV l) then
      (0 ≤ f ∧ f ≤ 17592186044415 ∧ readE s (nmS f) = 0 ∧ (ldZ s f).length ≤ 16777216 ∧ Wl.Inv (ldL1 s l f) ∧ Wl.Inv (ldL s l f) ∧ ldE s l f = 0) ∧ okF r (ldS s l f) (ldL s l f) (decide (ldN s l f = (ldZ s f).length))
    else True
def dropF : List Int → S → S
  | [], s => s
  | f :: r, s => dropF r (actS s (fnd s (nmS f) [nmS f]) (del (nmS f) s.fs))
def okD : List Int → S → Prop
  | [], _ => True
  | f :: r, s => (0 ≤ f ∧ f ≤ 17592186044415 ∧ actE s (fnd s (nmS f) [nmS f]) = 0) ∧ okD r (actS s (fnd s (nmS f) [nmS f]) (del (nmS f) s.fs))
set_option maxRecDepth 20000 in
set_option maxHeartbeats 8000000 in
theorem load_any {w0 w : World} {T Lb : Nat} {s : S} {l : Wl.L} {G : List (Nat × Obj)} {sa : Option Addr} {sc : Nat} {ra : Option Addr} {rc : Nat} (h : WRun w0 w T Lb s l G sa sc ra rc) (hF : Facts w0)
    (A : Option Addr) (n cap : Nat) (zs : List Int) (hn : n = zs.length) (hcap : n ≤ cap) (hl : n ≤ 1000000) (hA : ∀ W s l sa sc ra rc, WRun w0 W T Lb s l G sa sc ra rc → Nums W W.heap.size A zs)
    (ho : okF zs s l true) (hd : okD (loadF zs s l true).2.2 (loadF zs s l true).1) :
    Calls Tryz.prog 36 #[.pointer (some ⟨Lb, 0, none⟩), .slice A n cap] w fun e w' => RetI 0 e ∧ Hid (∃ sa' sc' ra' rc', WRun w0 w' T Lb (dropF (loadF zs s l true).2.2 (loadF zs s l true).1) (loadF zs s l true).2.1 G sa' sc' ra' rc') := by
  obtain ⟨R, hR⟩ : ∃ R, R = loadF zs s l true := ⟨_, rfl⟩
  rw [← hR] at hd ⊢
  have H := Lib.hid h
  have HF := Lib.hid hF
  have HO := Lib.hid ho
  have HD := Lib.hid hd
  have HR := Lib.hid hR.symm
  have HA := Lib.hid hA
  have HCAP := Lib.hid hcap
  have HN := Lib.hid hn
  have hl' : (n : Int) ≤ 1000000 := by omega
  clear h hF ho hd hR hA
  go_enter Tryz.func36, Tryz.ntmps36
  go_wp2_with fail
  go_loopg [1, 5] n (fun q fv bv wr => ∃ (r : List Int) (A' : Option Addr) (m c' : Nat) (b : Bool) (s' : S) (l' : Wl.L) (sa' : Option Addr) (sc' : Nat) (ra' : Option Addr) (rc' : Nat), q = m ∧ Hid (m = r.length) ∧ m ≤ n ∧ Hid (m ≤ c') ∧ fv = .slice A' m c' ∧ bv = .bool b ∧ Hid (∀ W s l sa sc ra rc, WRun w0 W T Lb s l G sa sc ra rc → Nums W W.heap.size A' r) ∧ Hid (WRun w0 wr T Lb s' l' G sa' sc' ra' rc') ∧ Hid (loadF r s' l' b = R) ∧ Hid (okF r s' l' b))
  case atStart => exact ⟨zs, A, n, cap, true, s, l, sa, sc, ra, rc, rfl, HN, Nat.le_refl _, HCAP, rfl, rfl, HA, H, HR, HO⟩
  case round =>
    obtain ⟨r, A', m, c', b, s', l', sa', sc', ra', rc', hqm, HM, hmn, HC, rfl, rfl, HA1, H1, HR1, HO1⟩ := hrel
    obtain rfl := hqm.symm
    have SC0 : Hid (∀ W s l sa sc ra rc, WRun w0 W T Lb s l G sa sc ra rc → W.cell? ⟨Lb, 2, none⟩ = some (.slice sa l.segs.length sc)) := Lib.hid fun W s l sa sc ra rc hW => by
      obtain ⟨⟨_, _, c2, _⟩, _⟩ := obj5 (obj_w hW)
      exact c2
    match r, b with
    | [], b =>
      have hm0 : ¬ 0 < (m : Int) := by have e : m = 0 := HM.out; omega
      have HR2 : Hid (R = (s', l', [])) := Lib.hid (by rw [← HR1.out, loadF])
      obtain ⟨RL, hRL⟩ : ∃ RL : List Int, RL = [] := ⟨_, rfl⟩
      rw [← hRL] at HM HA1 HR2
      clear SC0 hRL
      cases b
      all_goals
        go_wp2
        have HD2 : Hid (okD RL s') := Lib.hid (by have := HD.out; rw [HR2.out] at this; exact this)
        have er := HR2.out
        clear HD HR HR1 HO1 HO HR2 H HA
        subst er
        go_loopw [45] (fun iv wr => ∃ (i : Nat) (s2 : S), i ≤ m ∧ iv = .int .i64 i ∧ Hid (WRun w0 wr T Lb s2 l' G sa' sc' ra' rc') ∧ Hid (dropF (RL.drop i) s2 = dropF RL s') ∧ Hid (okD (RL.drop i) s2)) (fun iv _ => m - (intOf iv).toNat)
        case atStart => exact ⟨0, s', Nat.zero_le _, rfl, H1, Lib.hid rfl, HD2⟩
        case round =>
          obtain ⟨i, s2, hi, rfl, H2, HE, HK⟩ := hrel
          by_cases hlt : i < m
          · have hlt' : (i : Int) < (m : Int) := by omega
            obtain ⟨b7, off7, f2, hae, hb, hc, hf, f0, f1⟩ := (HA1.out _ _ _ _ _ _ _ H2.out).at_ (k := i) (by rw [← HM.out]; exact hlt)
            first | subst hae | (injection hae with hae; injection hae with h71 h72; subst h71 h72)
            have DR : Hid (RL.drop i = f2 :: RL.drop (i + 1)) := Lib.hid (by
              have hl : i < RL.length := by rw [← HM.out]; exact hlt
              rw [List.drop_eq_getElem_cons hl]
              have := hf.out
              rw [List.getD_eq_getElem?_getD, List.getElem?_eq_getElem hl] at this
              rw [show RL[i] = f2 from this])
            have HK2 := HK.out
            rw [DR.out] at HK2
            obtain ⟨⟨k1, k2, k3⟩, k4⟩ := HK2
            have HE2 : Hid (dropF (RL.drop (i + 1)) (actS s2 (fnd s2 (nmS f2) [nmS f2]) (del (nmS f2) s2.fs)) = dropF RL s') := Lib.hid (by have := HE.out; rw [DR.out] at this; exact this)
            have K4 := Lib.hid k4
            have H2d := Lib.hid (WRun.drew H2.out)
            have NM := Lib.hid (segname_any f2 0 k1 k2 wr.drew (HF.out.below (WRun.below H2d.out)))
            have DP := Lib.hid (fun (W : World) (hW : WRun w0 W T Lb s2 l' G sa' sc' ra' rc') => sdrop_w hW f2)
            rw [k3] at DP
            have SC : Hid (∀ W s, WRun w0 W T Lb s l' G sa' sc' ra' rc' → W.cell? ⟨Lb, 0, none⟩ = some (.pointer (some ⟨T, 0, none⟩))) := Lib.hid fun W s hW => by
              obtain ⟨⟨c0, _⟩, _⟩ := obj5 (obj_w hW)
              exact c0
            clear k1 k2 k3 k4 DR HK HE hb hf f0 f1
            generalize actS s2 (fnd s2 (nmS f2) [nmS f2]) (del (nmS f2) s2.fs) = s3 at *
            generalize Sg.nameB f2 = nb at *
            go_wp2_with fail
            go_region_held3 (fun w' => w'.cell? ⟨Lb, 0, none⟩ = some (.pointer (some ⟨T, 0, none⟩))) ((first | exact SC.out _ _ H2d.out | exact SC.out _ _ H3.out | exact SC.out _ _ H4.out | go_keep))
              (first
                | (go_simp; go_at_call 31; (with_reducible refine NM.out.mono ?_); rintro e w3 ⟨rfl, b3⟩; have H3 := Lib.hid (WRun.grow H2d.out b3.out))
                | (go_simp; go_at_call 30; (with_reducible refine (DP.out _ H3.out).mono ?_); rintro e w4 ⟨rfl, H4⟩))
            all_goals
              go_wp2
              go_roundw
              case rel => exact ⟨i + 1, s3, by omega, by go_num, H4, HE2, K4⟩
              case measure => simp [intOf]; omega
          · obtain rfl : i = m := by omega
            have E : Hid (dropF RL s' = s2) := Lib.hid (by rw [← HE.out, HM.out, List.drop_length]; rfl)
            clear HE HK HA1 HM
            go_wp2
            go_ret
            exact ⟨rfl, Lib.hid ⟨sa', sc', ra', rc', by rw [E.out]; exact H2.out⟩⟩
    | f :: r', false =>
      have HR2 : Hid (R = (s', l', f :: r')) := Lib.hid (by rw [← HR1.out, loadF, if_neg (by simp)])
      obtain ⟨RL, hRL⟩ : ∃ RL : List Int, RL = f :: r' := ⟨_, rfl⟩
      rw [← hRL] at HM HA1 HR2
      clear SC0 hRL
      go_wp2
      have HD2 : Hid (okD RL s') := Lib.hid (by have := HD.out; rw [HR2.out] at this; exact this)
      have er := HR2.out
      clear HD HR HR1 HO1 HO HR2 H HA
      subst er
      go_loopw [45] (fun iv wr => ∃ (i : Nat) (s2 : S), i ≤ m ∧ iv = .int .i64 i ∧ Hid (WRun w0 wr T Lb s2 l' G sa' sc' ra' rc') ∧ Hid (dropF (RL.drop i) s2 = dropF RL s') ∧ Hid (okD (RL.drop i) s2)) (fun iv _ => m - (intOf iv).toNat)
      case atStart => exact ⟨0, s', Nat.zero_le _, rfl, H1, Lib.hid rfl, HD2⟩
      case round =>
        obtain ⟨i, s2, hi, rfl, H2, HE, HK⟩ := hrel
        by_cases hlt : i < m
        · have hlt' : (i : Int) < (m : Int) := by omega
          obtain ⟨b7, off7, f2, hae, hb, hc, hf, f0, f1⟩ := (HA1.out _ _ _ _ _ _ _ H2.out).at_ (k := i) (by rw [← HM.out]; exact hlt)
          first | subst hae | (injection hae with hae; injection hae with h71 h72; subst h71 h72)
          have DR : Hid (RL.drop i = f2 :: RL.drop (i + 1)) := Lib.hid (by
            have hl : i < RL.length := by rw [← HM.out]; exact hlt
            rw [List.drop_eq_getElem_cons hl]
            have := hf.out
            rw [List.getD_eq_getElem?_getD, List.getElem?_eq_getElem hl] at this
            rw [show RL[i] = f2 from this])
          have HK2 := HK.out
          rw [DR.out] at HK2
          obtain ⟨⟨k1, k2, k3⟩, k4⟩ := HK2
          have HE2 : Hid (dropF (RL.drop (i + 1)) (actS s2 (fnd s2 (nmS f2) [nmS f2]) (del (nmS f2) s2.fs)) = dropF RL s') := Lib.hid (by have := HE.out; rw [DR.out] at this; exact this)
          have K4 := Lib.hid k4
          have H2d := Lib.hid (WRun.drew H2.out)
          have NM := Lib.hid (segname_any f2 0 k1 k2 wr.drew (HF.out.below (WRun.below H2d.out)))
          have DP := Lib.hid (fun (W : World) (hW : WRun w0 W T Lb s2 l' G sa' sc' ra' rc') => sdrop_w hW f2)
          rw [k3] at DP
          have SC : Hid (∀ W s, WRun w0 W T Lb s l' G sa' sc' ra' rc' → W.cell? ⟨Lb, 0, none⟩ = some (.pointer (some ⟨T, 0, none⟩))) := Lib.hid fun W s hW => by
            obtain ⟨⟨c0, _⟩, _⟩ := obj5 (obj_w hW)
            exact c0
          clear k1 k2 k3 k4 DR HK HE hb hf f0 f1
          generalize actS s2 (fnd s2 (nmS f2) [nmS f2]) (del (nmS f2) s2.fs) = s3 at *
          generalize Sg.nameB f2 = nb at *
          go_wp2_with fail
          go_region_held3 (fun w' => w'.cell? ⟨Lb, 0, none⟩ = some (.pointer (some ⟨T, 0, none⟩))) ((first | exact SC.out _ _ H2d.out | exact SC.out _ _ H3.out | exact SC.out _ _ H4.out | go_keep))
            (first
              | (go_simp; go_at_call 31; (with_reducible refine NM.out.mono ?_); rintro e w3 ⟨rfl, b3⟩; have H3 := Lib.hid (WRun.grow H2d.out b3.out))
              | (go_simp; go_at_call 30; (with_reducible refine (DP.out _ H3.out).mono ?_); rintro e w4 ⟨rfl, H4⟩))
          all_goals
            go_wp2
            go_roundw
            case rel => exact ⟨i + 1, s3, by omega, by go_num, H4, HE2, K4⟩
            case measure => simp [intOf]; omega
        · obtain rfl : i = m := by omega
          have E : Hid (dropF RL s' = s2) := Lib.hid (by rw [← HE.out, HM.out, List.drop_length]; rfl)
          clear HE HK HA1 HM
          go_wp2
          go_ret
          exact ⟨rfl, Lib.hid ⟨sa', sc', ra', rc', by rw [E.out]; exact H2.out⟩⟩
    | f :: r', true =>
      have hm1 : 0 < m := by rw [HM.out]; simp
      have hm1' : 0 < (m : Int) := by omega
      obtain ⟨b1, off, f', rfl, hb, hc, hf, f0, f1⟩ := (HA1.out _ _ _ _ _ _ _ H1.out).at_ (k := 0) (by simp)
      obtain rfl : f = f' := by simpa using hf.out
      rw [Nat.add_zero] at hc
      have EN := Lib.hid (fun k => end_w (WRun.draw H1.out k))
      have c2 := SC0.out _ _ _ _ _ _ _ H1.out
      by_cases hseg : l'.segs.length = 0 ∨ f = Wl.endV l'
      · have HOK := HO1.out
        rw [okF, if_pos ⟨rfl, hseg⟩] at HOK
        have HRK := HR1.out
        rw [loadF, if_pos ⟨rfl, hseg⟩] at HRK
        obtain ⟨⟨q1, q2, q3, q4, q5, q6, q7⟩, q8⟩ := HOK
        have HRK1 := Lib.hid HRK
        have HOK1 := Lib.hid q8
        have LO := Lib.hid (fun (W : World) (hW : WRun w0 W T Lb s' l' G sa' sc' ra' rc') => loadone_any hW HF.out f q1 q2 q3 q4 q5 q6)
        unfold LoadPost at LO
        rw [q7] at LO
        have sl : ∀ W, (Instr.slice 83 (.slice (some ⟨b1, off, none⟩) m c') (some (.int .i64 1)) none none).run Tryz.prog W = .ok (.slice (tailA (some ⟨b1, off, none⟩) c' 1) (m - 1) (c' - 1)) W := fun W => slice_fromI (some ⟨b1, off, none⟩) m c' 1 (by omega) .i64 W
        have HA2 : Hid (∀ W s l sa sc ra rc, WRun w0 W T Lb s l G sa sc ra rc → Nums W W.heap.size (tailA (some ⟨b1, off, none⟩) c' 1) r') := Lib.hid fun W s l sa sc ra rc hW => (HA1.out W s l sa sc ra rc hW).tail 1 c' (by rw [← HM.out]; exact HC.out)
        have HM2 : Hid (m - 1 = r'.length) := Lib.hid (by have := HM.out; simp at this; omega)
        have HC2 : Hid (m - 1 ≤ c' - 1) := Lib.hid (by have := HC.out; omega)
        clear HR1 HO1 HRK q1 q2 q3 q4 q5 q6 q7 q8 SC0 hf f0 f1 hb HA1 HM HC
        generalize hwh : decide (ldN s' l' f = (ldZ s' f).length) = wh at *
        generalize ldS s' l' f = s3 at *
        generalize ldL s' l' f = l3 at *
        clear hwh
        have EN2 : Hid (∀ k, Calls Tryz.prog 12 #[.pointer (some ⟨Lb, 0, none⟩)] (wr.drewN k) fun e w' => e = .returned (.int .i64 (Wl.endV l')) ∧ ∃ j, w' = wr.drewN j) := Lib.hid fun k => (EN.out k).mono fun _ _ ⟨h1, j, h2⟩ => ⟨h1, k + j, by rw [h2]; exact drewN_drewN _ _ _⟩
        clear EN
        by_cases h0 : l'.segs.length = 0
        · have hd0 : decide (0 < l'.segs.length) = false := decide_eq_false (by omega)
          clear hseg h0
          generalize l'.segs.length = ls at *
          go_wp2_with fail
          go_quiet (fail)
          have H3 := Lib.hid (WRun.draw H1.out nq)
          have hc2 : (wr.drewN nq).cell? ⟨b1, off, none⟩ = some (.int .i64 f) := hc
          generalize wr.drewN nq = w3 at *
          go_wp2_with fail
          (with_reducible refine (LO.out _ H3.out).mono ?_); rintro e w4 ⟨rfl, H4⟩
          obtain ⟨sa4, sc4, ra4, rc4, h4⟩ := H4.out
          go_wp2
          go_roundg (m - 1)
          case measure => omega
          case rel => exact ⟨r', _, m - 1, c' - 1, wh, s3, l3, sa4, sc4, ra4, rc4, rfl, HM2, by omega, HC2, rfl, rfl, HA2, Lib.hid h4, HRK1, HOK1⟩
        · have hfe : f = Wl.endV l' := by rcases hseg with h | h; exact absurd h h0; exact h
          rw [← hfe] at EN2
          have hd0 : decide (0 < l'.segs.length) = true := decide_eq_true (by omega)
          clear hseg h0 hfe
          generalize l'.segs.length = ls at *
          go_wp2_with fail
          go_quiet ((go_at_call 12; exact EN2.out _))
          have H3 := Lib.hid (WRun.draw H1.out nq)
          have hc2 : (wr.drewN nq).cell? ⟨b1, off, none⟩ = some (.int .i64 f) := hc
          generalize wr.drewN nq = w3 at *
          go_wp2_with fail
          (with_reducible refine (LO.out _ H3.out).mono ?_); rintro e w4 ⟨rfl, H4⟩
          obtain ⟨sa4, sc4, ra4, rc4, h4⟩ := H4.out
          go_wp2
          go_roundg (m - 1)
          case measure => omega
          case rel => exact ⟨r', _, m - 1, c' - 1, wh, s3, l3, sa4, sc4, ra4, rc4, rfl, HM2, by omega, HC2, rfl, rfl, HA2, Lib.hid h4, HRK1, HOK1⟩
      · have HR2 : Hid (R = (s', l', f :: r')) := Lib.hid (by rw [← HR1.out, loadF, if_neg (fun hh => hseg hh.2)])
        obtain ⟨RL, hRL⟩ : ∃ RL : List Int, RL = f :: r' := ⟨_, rfl⟩
        have HRL := Lib.hid hRL
        rw [← hRL] at HM HA1 HR2
        clear hRL HRL
        have h0 : l'.segs.length ≠ 0 := fun h => hseg (Or.inl h)
        have hne : (f == Wl.endV l') = false := by rw [beq_eq_false_iff_ne]; exact fun h => hseg (Or.inr h)
        have EN2 : Hid (∀ k, Calls Tryz.prog 12 #[.pointer (some ⟨Lb, 0, none⟩)] (wr.drewN k) fun e w' => e = .returned (.int .i64 (Wl.endV l')) ∧ ∃ j, w' = wr.drewN j) := Lib.hid fun k => (EN.out k).mono fun _ _ ⟨h1, j, h2⟩ => ⟨h1, k + j, by rw [h2]; exact drewN_drewN _ _ _⟩
        generalize Wl.endV l' = en at *
        have hd0 : decide (0 < l'.segs.length) = true := decide_eq_true (by omega)
        clear hseg h0 EN SC0 hf f0 f1 hb
        generalize l'.segs.length = ls at *
        go_wp2_with fail
        go_quiet ((go_at_call 12; exact EN2.out _))
        have H3 := Lib.hid (WRun.draw H1.out nq)
        generalize wr.drewN nq = w3 at *
        clear H1 EN2 hc c2
        have H1 := H3
        clear H3
        go_wp2
        clear hd0 hne
        generalize (f != en) = bb
        have HD2 : Hid (okD RL s') := Lib.hid (by have := HD.out; rw [HR2.out] at this; exact this)
        have er := HR2.out
        clear HD HR HR1 HO1 HO HR2 H HA
        subst er
        go_loopw [45] (fun iv wr => ∃ (i : Nat) (s2 : S), i ≤ m ∧ iv = .int .i64 i ∧ Hid (WRun w0 wr T Lb s2 l' G sa' sc' ra' rc') ∧ Hid (dropF (RL.drop i) s2 = dropF RL s') ∧ Hid (okD (RL.drop i) s2)) (fun iv _ => m - (intOf iv).toNat)
        case atStart => exact ⟨0, s', Nat.zero_le _, rfl, H1, Lib.hid rfl, HD2⟩
        case round =>
          obtain ⟨i, s2, hi, rfl, H2, HE, HK⟩ := hrel
          by_cases hlt : i < m
          · have hlt' : (i : Int) < (m : Int) := by omega
            obtain ⟨b7, off7, f2, hae, hb, hc, hf, f0, f1⟩ := (HA1.out _ _ _ _ _ _ _ H2.out).at_ (k := i) (by rw [← HM.out]; exact hlt)
            first | subst hae | (injection hae with hae; injection hae with h71 h72; subst h71 h72)
            have DR : Hid (RL.drop i = f2 :: RL.drop (i + 1)) := Lib.hid (by
              have hl : i < RL.length := by rw [← HM.out]; exact hlt
              rw [List.drop_eq_getElem_cons hl]
              have := hf.out
              rw [List.getD_eq_getElem?_getD, List.getElem?_eq_getElem hl] at this
              rw [show RL[i] = f2 from this])
            have HK2 := HK.out
            rw [DR.out] at HK2
            obtain ⟨⟨k1, k2, k3⟩, k4⟩ := HK2
            have HE2 : Hid (dropF (RL.drop (i + 1)) (actS s2 (fnd s2 (nmS f2) [nmS f2]) (del (nmS f2) s2.fs)) = dropF RL s') := Lib.hid (by have := HE.out; rw [DR.out] at this; exact this)
            have K4 := Lib.hid k4
            have H2d := Lib.hid (WRun.drew H2.out)
            have NM := Lib.hid (segname_any f2 0 k1 k2 wr.drew (HF.out.below (WRun.below H2d.out)))
            have DP := Lib.hid (fun (W : World) (hW : WRun w0 W T Lb s2 l' G sa' sc' ra' rc') => sdrop_w hW f2)
            rw [k3] at DP
            have SC : Hid (∀ W s, WRun w0 W T Lb s l' G sa' sc' ra' rc' → W.cell? ⟨Lb, 0, none⟩ = some (.pointer (some ⟨T, 0, none⟩))) := Lib.hid fun W s hW => by
              obtain ⟨⟨c0, _⟩, _⟩ := obj5 (obj_w hW)
              exact c0
            clear k1 k2 k3 k4 DR HK HE hb hf f0 f1
            generalize actS s2 (fnd s2 (nmS f2) [nmS f2]) (del (nmS f2) s2.fs) = s3 at *
            generalize Sg.nameB f2 = nb at *
            go_wp2_with fail
            go_region_held3 (fun w' => w'.cell? ⟨Lb, 0, none⟩ = some (.pointer (some ⟨T, 0, none⟩))) ((first | exact SC.out _ _ H2d.out | exact SC.out _ _ H3.out | exact SC.out _ _ H4.out | go_keep))
              (first
                | (go_simp; go_at_call 31; (with_reducible refine NM.out.mono ?_); rintro e w3 ⟨rfl, b3⟩; have H3 := Lib.hid (WRun.grow H2d.out b3.out))
                | (go_simp; go_at_call 30; (with_reducible refine (DP.out _ H3.out).mono ?_); rintro e w4 ⟨rfl, H4⟩))
            all_goals
              go_wp2
              go_roundw
              case rel => exact ⟨i + 1, s3, by omega, by go_num, H4, HE2, K4⟩
              case measure => simp [intOf]; omega
          · obtain rfl : i = m := by omega
            have E : Hid (dropF RL s' = s2) := Lib.hid (by rw [← HE.out, HM.out, List.drop_length]; rfl)
            clear HE HK HA1 HM
            go_wp2
            go_ret
            exact ⟨rfl, Lib.hid ⟨sa', sc', ra', rc', by rw [E.out]; exact H2.out⟩⟩
end Go.Proofs.YtdbhicifjljjnaaGreatDoor
/-
  A log in memory, changed: a segment's size, fewer segments, fewer records, how far it is durable.
-/
namespace Go.Proofs.YtdbhicifjljjnaaGreatDoor
open Go.RowKit St
theorem flat2_take : ∀ (vs : List (Value × Value)) (n : Nat), (flat2 vs).take (n * 2) = flat2 (vs.take n)
  | [], n => by simp [flat2]
  | v :: r, 0 => by simp [flat2]
  | v :: r, n + 1 => by
    have ih := flat2_take r n
    have e : flat2 (v :: r) = v.1 :: v.2 :: flat2 r := rfl
    rw [e, show (n + 1) * 2 = n * 2 + 1 + 1 by omega, List.take_succ_cons, List.take_succ_cons, ih]
    rfl
theorem OwnP.take {w : World} {base g cap : Nat} {T : TypeId} {vs : List (Value × Value)} (h : OwnP w base T (some ⟨g, 0, none⟩) cap vs) (n : Nat) (hn : n ≤ vs.length) : OwnP w base T (some ⟨g, 0, none⟩) cap (vs.take n) := by
  have hl : (vs.take n).length = n := by rw [List.length_take]; omega
  unfold OwnP
  rw [hl]
  refine ⟨by rw [flat2_len, hl], ?_⟩
  rcases h.2 with ⟨e, _⟩ | ⟨g', c', cur, e, hb, hg, hle, hm, hsz, htk⟩
  · cases e
  · injection e with e1 e2 e3
    injection e1 with e1
    injection e1 with e1
    subst e1 e3
    refine .inr ⟨g, _, cur, rfl, hb, hg, by omega, hm, hsz, ?_⟩
    have e : cur.toList.take (n * 2) = (cur.toList.take (vs.length * 2)).take (n * 2) := by rw [List.take_take, Nat.min_eq_left (by omega)]
    rw [e, htk, flat2_take]
/-- What stands behind the row may turn. -/
theorem OwnP.behind {base g cap : Nat} {T : TypeId} {vs : List (Value × Value)} : ∀ (us : List Value) (w : World) (o : Nat), OwnP w base T (some ⟨g, 0, none⟩) cap vs → vs.length * 2 ≤ o → OwnP (w.setCells g o us) base T (some ⟨g, 0, none⟩) cap vs
  | [], _, _, h, _ => h
  | u :: r, w, o, h, ho => by
    have h1 : OwnP (w.setCell ⟨g, o, none⟩ u) base T (some ⟨g, 0, none⟩) cap vs := by
      have := w_ownsRow_set h o u
      rwa [List.set_eq_of_length_le (by rw [flat2_len]; exact ho)] at this
    exact OwnP.behind r _ (o + 1) h1 (by omega)
theorem heap_setCells (g : Nat) : ∀ (us : List Value) (w : World) (o k : Nat), k ≠ g → (w.setCells g o us).heap[k]? = w.heap[k]?
  | [], _, _, _, _ => rfl
  | u :: r, w, o, k, hk => (heap_setCells g r _ (o + 1) k hk).trans (Below.heap_setCell _ _ _ _ hk)
theorem only_setCells {O : Nat → Prop} {g : Nat} (hg : O g) : ∀ (us : List Value) (w : World) (o : Nat), Only O w (w.setCells g o us)
  | [], w, _ => Only.refl _ _
  | u :: r, w, o => (Only.set O o w u hg).trans (only_setCells hg r _ (o + 1)) fun _ h => .inl h
section
variable {w : World} {Lb T : Nat} {O : Nat → Prop} {l : Wl.L} {sa : Option Addr} {sc : Nat} {ra : Option Addr} {rc : Nat}
theorem LM.apart (h : LM w Lb T O l sa sc ra rc) : (∀ a, sa = some a → a.block ≠ Lb) ∧ (∀ a, ra = some a → a.block ≠ Lb) ∧ (∀ a b, sa = some a → ra = some b → a.block ≠ b.block) ∧ (∀ a, ra = some a → O a.block) := by
  obtain ⟨vs, r1, r2, r3, r4⟩ := h.recs
  have np : ∀ {T' : TypeId} {A : Option Addr} {cap : Nat} {us : List (Value × Value)}, OwnP w 0 T' A cap us → T' ≠ 57 → ∀ a, A = some a → a.block ≠ Lb := fun hb ht a ha => by
    subst ha
    obtain ⟨cur, hc⟩ := wal_block hb
    exact type_ne hc h.obj ht
  refine ⟨np h.segs (by decide), np r2 (by decide), fun a b ha hb => ?_, r3⟩
  subst ha hb
  obtain ⟨cur, hc⟩ := wal_block h.segs
  obtain ⟨cur2, hc2⟩ := wal_block r2
  exact type_ne hc hc2 (by decide)
/-- The bytes of a record stand in no row of pairs, and not in the log's object. -/
theorem OwnB.not_row {g cap cap2 : Nat} {A : Option Addr} {zs : List Int} {T' : TypeId} {us : List (Value × Value)} (hb : OwnB w 0 A cap zs) (h : OwnP w 0 T' (some ⟨g, 0, none⟩) cap2 us) (hT : T' ≠ 5) : ∀ a, A = some a → a.block ≠ g := fun a ha => by
  subst ha
  obtain ⟨cur, hc⟩ := hb.block
  obtain ⟨cur2, hc2⟩ := wal_block h
  exact type_ne hc hc2 (Ne.symm hT)
/-- One segment's size, stored. -/
theorem LM.sized {g : Nat} (h : LM w Lb T O l (some ⟨g, 0, none⟩) sc ra rc) {i : Nat} (hi : i < l.segs.length) (v : Int) (hinv : Wl.Inv { l with segs := l.segs.set i ((l.segs.getD i (0, 0)).1, v) }) :
    LM (w.setCell ⟨g, i * 2 + 1, none⟩ (.int .i64 v)) Lb T O { l with segs := l.segs.set i ((l.segs.getD i (0, 0)).1, v) } (some ⟨g, 0, none⟩) sc ra rc := by
  obtain ⟨a1, a2, a3, a4⟩ := h.apart
  have hgL : g ≠ Lb := a1 _ rfl
  have hk : ∀ k, k ≠ g → (w.setCell ⟨g, i * 2 + 1, none⟩ (.int .i64 v)).heap[k]? = w.heap[k]? := fun k hk => Below.heap_setCell _ _ _ _ hk
  obtain ⟨vs, r1, r2, r3, r4⟩ := h.recs
  refine ⟨?_, h.segs.set2 hi v, ⟨vs, r1, r2.keep fun b hb => hk _ fun e => a3 _ b rfl hb e.symm, r3, fun j hj => ?_⟩, h.ownL, h.ownS, fun k hk => by have := h.lt k hk; simpa [World.setCell] using this, hinv⟩
  · rw [hk _ (Ne.symm hgL), h.obj]; simp
  · obtain ⟨q1, A, cap, q2, q3, q4⟩ := r4 j hj
    exact ⟨q1, A, cap, q2, q3.keep fun b hb => hk _ (q3.not_row h.segs (by decide) b hb), q4⟩
/-- The log's object, one cell of which is another. -/
theorem LM.recell (h : LM w Lb T O l sa sc ra rc) {l' : Wl.L} (o : Nat) (v : Value) (hs : OwnP w 0 70 sa sc (segV l'.segs)) (hr : RecsO w O ra rc l'.recs) (hinv : Wl.Inv l')
    (ho : #[.pointer (some ⟨T, 0, none⟩), .int .i64 l.most, .slice sa l.segs.length sc, .slice ra l.recs.length rc, .int .i64 l.sure].setIfInBounds o v = #[.pointer (some ⟨T, 0, none⟩), .int .i64 l'.most, .slice sa l'.segs.length sc, .slice ra l'.recs.length rc, .int .i64 l'.sure]) :
    LM (w.setCell ⟨Lb, o, none⟩ v) Lb T O l' sa sc ra rc := by
  obtain ⟨a1, a2, a3, a4⟩ := h.apart
  have hk : ∀ k, k ≠ Lb → (w.setCell ⟨Lb, o, none⟩ v).heap[k]? = w.heap[k]? := fun k hk => Below.heap_setCell _ _ _ _ hk
  obtain ⟨vs, r1, r2, r3, r4⟩ := hr
  refine ⟨?_, hs.keep fun a ha => hk _ (a1 a ha), ⟨vs, r1, r2.keep fun a ha => hk _ (a2 a ha), r3, fun j hj => ?_⟩, h.ownL, h.ownS, fun k hk => by have := h.lt k hk; simpa [World.setCell] using this, hinv⟩
  · rw [heap_setCell_same w Lb o _ _ v h.obj, ho]
  · obtain ⟨q1, A, cap, q2, q3, q4⟩ := r4 j hj
    refine ⟨q1, A, cap, q2, q3.keep fun b hb => ?_, q4⟩
    subst hb
    obtain ⟨cur, hc⟩ := q3.block
    exact hk _ (type_ne hc h.obj (by decide))
theorem segV_take (g : List (Int × Int)) (n : Nat) : segV (g.take n) = (segV g).take n := by unfold segV; rw [List.map_take]
/-- Only the first n segments stay. -/
theorem LM.cut_segs (h : LM w Lb T O l sa sc ra rc) (n : Nat) (h0 : 0 < n) (hn : n ≤ l.segs.length) (hinv : Wl.Inv { l with segs := l.segs.take n }) :
    LM (w.setCell ⟨Lb, 2, none⟩ (.slice sa n sc)) Lb T O { l with segs := l.segs.take n } sa sc ra rc := by
  have hs := h.segs
  obtain ⟨g, e, _, _⟩ := hs.shape (by rw [segV_len]; omega)
  subst e
  refine h.recell 2 _ ?_ h.recs hinv ?_
  · rw [segV_take]
    exact hs.take n (by rw [segV_len]; exact hn)
  · simp [List.length_take, Nat.min_eq_left hn]
theorem RecsO.take {g : Nat} {rs : List Fr.Rc} (h : RecsO w O (some ⟨g, 0, none⟩) rc rs) (n : Nat) (hn : n ≤ rs.length) : RecsO w O (some ⟨g, 0, none⟩) rc (rs.take n) := by
  obtain ⟨vs, r1, r2, r3, r4⟩ := h
  have hl : (rs.take n).length = n := by rw [List.length_take]; omega
  refine ⟨vs.take n, by rw [List.length_take, hl]; omega, r2.take n (by omega), r3, fun j hj => ?_⟩
  rw [hl] at hj
  have e1 : (vs.take n).getD j (undef, undef) = vs.getD j (undef, undef) := by rw [List.getD_eq_getElem?_getD, List.getD_eq_getElem?_getD, List.getElem?_take_of_lt hj]
  have e2 : (rs.take n).getD j (0, []) = rs.getD j (0, []) := by rw [List.getD_eq_getElem?_getD, List.getD_eq_getElem?_getD, List.getElem?_take_of_lt hj]
  rw [e1, e2]
  exact r4 j (by omega)
/-- Only the first n records stay; what stood behind them is struck. -/
theorem LM.cut_recs {g : Nat} (h : LM w Lb T O l sa sc (some ⟨g, 0, none⟩) rc) (n : Nat) (hn : n ≤ l.recs.length) (us : List Value) (hinv : Wl.Inv { l with recs := l.recs.take n }) :
    LM ((w.setCells g (n * 2) us).setCell ⟨Lb, 3, none⟩ (.slice (some ⟨g, 0, none⟩) n rc)) Lb T O { l with recs := l.recs.take n } sa sc (some ⟨g, 0, none⟩) rc := by
  obtain ⟨a1, a2, a3, a4⟩ := h.apart
  have hk : ∀ k, k ≠ g → (w.setCells g (n * 2) us).heap[k]? = w.heap[k]? := fun k hk => heap_setCells g us w _ k hk
  have hl : (l.recs.take n).length = n := by rw [List.length_take]; omega
  obtain ⟨vs, r1, r2, r3, r4⟩ := h.recs.take n hn
  rw [hl] at r1
  have hobj : (w.setCells g (n * 2) us).heap[Lb]? = w.heap[Lb]? := hk _ (Ne.symm (a2 _ rfl))
  have hsz : (w.setCells g (n * 2) us).heap.size = w.heap.size := by
    have : ∀ (us : List Value) (w : World) (o : Nat), (w.setCells g o us).heap.size = w.heap.size := fun us => by
      induction us with
      | nil => intro w o; rfl
      | cons u r ih => intro w o; rw [World.setCells, ih]; simp [World.setCell]
    exact this us w _
  have hR : RecsO (w.setCells g (n * 2) us) O (some ⟨g, 0, none⟩) rc (l.recs.take n) := by
    refine ⟨vs, by rw [r1, hl], r2.behind us w (n * 2) (by omega), r3, fun j hj => ?_⟩
    obtain ⟨q1, A, cap, q2, q3, q4⟩ := r4 j hj
    exact ⟨q1, A, cap, q2, q3.keep fun b hb => hk _ (q3.not_row r2 (by decide) b hb), q4⟩
  -- the object as it stood, over the world behind the strike
  have hk2 : ∀ k, k ≠ Lb → ((w.setCells g (n * 2) us).setCell ⟨Lb, 3, none⟩ (.slice (some ⟨g, 0, none⟩) n rc)).heap[k]? = (w.setCells g (n * 2) us).heap[k]? := fun k hk => Below.heap_setCell _ _ _ _ hk
  obtain ⟨vs2, t1, t2, t3, t4⟩ := hR
  refine ⟨?_, h.segs.keep fun a ha => (hk2 _ (a1 a ha)).trans (hk _ (a3 a _ ha rfl)), ⟨vs2, t1, t2.keep fun a ha => hk2 _ (a2 a ha), t3, fun j hj => ?_⟩, h.ownL, h.ownS, fun k hk => by have := h.lt k hk; simpa [World.setCell, hsz] using this, hinv⟩
  · rw [heap_setCell_same _ Lb 3 _ _ _ (hobj.trans h.obj)]
    simp [hl]
  · obtain ⟨q1, A, cap, q2, q3, q4⟩ := t4 j hj
    refine ⟨q1, A, cap, q2, q3.keep fun b hb => ?_, q4⟩
    subst hb
    obtain ⟨cur, hc⟩ := q3.block
    exact hk2 _ (type_ne hc (hobj.trans h.obj) (by decide))
end
/-! The same, beside the store. -/
section
variable {w0 w : World} {T Lb : Nat} {s : S} {l : Wl.L} {G : List (Nat × Obj)} {sa : Option Addr} {sc : Nat} {ra : Option Addr} {rc : Nat}
theorem WRun.sized {g : Nat} (h : WRun w0 w T Lb s l G (some ⟨g, 0, none⟩) sc ra rc) {i : Nat} (hi : i < l.segs.length) (v : Int) (hinv : Wl.Inv { l with segs := l.segs.set i ((l.segs.getD i (0, 0)).1, v) }) :
    WRun w0 (w.setCell ⟨g, i * 2 + 1, none⟩ (.int .i64 v)) T Lb s { l with segs := l.segs.set i ((l.segs.getD i (0, 0)).1, v) } G (some ⟨g, 0, none⟩) sc ra rc :=
  w_log h fun O _ q => ⟨O, q.sized hi v hinv, ⟨Only.set O _ w _ (q.ownS _ rfl), fun _ h => .inl h⟩⟩
theorem WRun.cut_segs (h : WRun w0 w T Lb s l G sa sc ra rc) (n : Nat) (h0 : 0 < n) (hn : n ≤ l.segs.length) (hinv : Wl.Inv { l with segs := l.segs.take n }) :
    WRun w0 (w.setCell ⟨Lb, 2, none⟩ (.slice sa n sc)) T Lb s { l with segs := l.segs.take n } G sa sc ra rc :=
  w_log h fun O _ q => ⟨O, q.cut_segs n h0 hn hinv, ⟨Only.set O _ w _ q.ownL, fun _ h => .inl h⟩⟩
theorem WRun.cut_recs {g : Nat} (h : WRun w0 w T Lb s l G sa sc (some ⟨g, 0, none⟩) rc) (n : Nat) (hn : n ≤ l.recs.length) (us : List Value) (hinv : Wl.Inv { l with recs := l.recs.take n }) :
    WRun w0 ((w.setCells g (n * 2) us).setCell ⟨Lb, 3, none⟩ (.slice (some ⟨g, 0, none⟩) n rc)) T Lb s { l with recs := l.recs.take n } G sa sc (some ⟨g, 0, none⟩) rc :=
  w_log h fun O _ q => ⟨O, q.cut_recs n hn us hinv, ⟨(only_setCells (q.apart.2.2.2 _ rfl) us w _).trans (Only.set O _ _ _ q.ownL) fun _ h => .inl h, fun _ h => .inl h⟩⟩
theorem WRun.sured (h : WRun w0 w T Lb s l G sa sc ra rc) (v : Int) (h0 : 0 ≤ v) (h1 : v ≤ 17609365913600) : WRun w0 (w.setCell ⟨Lb, 4, none⟩ (.int .i64 v)) T Lb s { l with sure := v } G sa sc ra rc :=
  w_log h fun O _ q => ⟨O, q.sured v h0 h1, ⟨Only.set O _ w _ q.ownL, fun _ h => .inl h⟩⟩
end
end Go.Proofs.YtdbhicifjljjnaaGreatDoor
/-
  slices.Delete at []frame.Rec, of all that stands from a record on.
-/
namespace Go.Proofs.YtdbhicifjljjnaaGreatDoor
open Go.RowKit St
theorem undR : Tryz.prog.underlying 29 = some (.slice 40) := Tryz.underlying29
theorem recT_info : (Tryz.prog.info? 40).map (fun i => (i.zero, i.size, i.bytes)) = some (some (.agg #[.int .u64 0, .slice none 0 0]), 2, 32) := by kernel_rfl
theorem zeroR (w : World) : (zeroValue 40).run Tryz.prog w = .ok (.agg #[.int .u64 0, .slice none 0 0]) w := by kernel_rfl
theorem zeroCells_one (z : Array Value) (n : Nat) (h : ∀ v ∈ z, v.oneCell' = true) (h0 : 0 < z.size) : (Builtin.zeroCells z n).toList.length = n * z.size ∧ ∀ v ∈ (Builtin.zeroCells z n).toList, v.oneCell' = true := by
  unfold Builtin.zeroCells
  refine ⟨by simp, fun v hv => ?_⟩
  simp at hv
  obtain ⟨i, hi, rfl⟩ := hv
  have hm : i % z.size < z.size := Nat.mod_lt _ h0
  rw [getElem!_pos z _ hm]
  exact h _ (Array.getElem_mem hm)
/-- 'clear' on a slice of records: their cells hold something else. -/
theorem clear_recs (w : World) (ty : TypeId) (b o n c : Nat) (hn : 0 < n) (hc : ∀ j, j < n * 2 → (w.cell? ⟨b, o + j, none⟩).isSome = true) (hf : ∀ j, j < n * 2 → w.frozen? ⟨b, o + j, none⟩ = false) :
    (Builtin.clear_ #[29] ty #[.slice (some ⟨b, o, none⟩) n c]).run Tryz.prog w = .ok (.tuple #[]) (w.setCells b o (Builtin.zeroCells #[.int .u64 0, .slice none 0 0] n).toList) := by
  obtain ⟨z1, z2⟩ := zeroCells_one #[.int .u64 0, .slice none 0 0] n (by simp [Value.oneCell']) (by simp)
  have z1' : (Builtin.zeroCells #[.int .u64 0, .slice none 0 0] n).toList.length = n * 2 := z1
  have hst := run_storeCells_cells (P := Tryz.prog) b o (Builtin.zeroCells #[.int .u64 0, .slice none 0 0] n).toList 0 w (by rw [z1']; simpa using hc) (by rw [z1']; simpa using hf) z2
  simp only [Nat.add_zero] at hst
  obtain ⟨m, rfl⟩ : ∃ m, n = m + 1 := ⟨n - 1, by omega⟩
  have hcs : (Value.agg #[.int .u64 0, .slice none 0 0]).cells = #[.int .u64 0, .slice none 0 0] := rfl
  simp [Builtin.clear_, run_underlying undR, zeroR, hcs, hst]
theorem OwnP.spare {w : World} {base g cap : Nat} {T : TypeId} {vs : List (Value × Value)} (h : OwnP w base T (some ⟨g, 0, none⟩) cap vs) : vs.length ≤ cap ∧ cap ≤ 9223372036854775807 ∧ ∀ j, j < cap * 2 → (w.cell? ⟨g, j, none⟩).isSome = true ∧ w.frozen? ⟨g, j, none⟩ = false := by
  rcases h.2 with ⟨e, _⟩ | ⟨g', c', cur, e, hb, hg, hle, hm, hsz, htk⟩
  · cases e
  · injection e with e1 e2 e3
    injection e1 with e1
    injection e1 with e1
    subst e1 e3
    refine ⟨hle, by unfold maxLen at hm; exact hm, fun j hj => ⟨?_, ?_⟩⟩
    · simp [World.cell?, hg]; omega
    · simp [World.frozen?, hg]
set_option maxRecDepth 20000 in
set_option maxHeartbeats 4000000 in
theorem delete_rest {w : World} {base g cap : Nat} {vs : List (Value × Value)} (h : OwnP w base 40 (some ⟨g, 0, none⟩) cap vs) (n i : Nat) (hn : n = vs.length) (hi : i < n) :
    Calls Tryz.prog 33 #[.slice (some ⟨g, 0, none⟩) n cap, .int .i64 i, .int .i64 n] w fun e w' => e = .returned (.slice (some ⟨g, 0, none⟩) i cap) ∧ ∃ q us, w' = (w.drewN q).setCells g (i * 2) us := by
  obtain ⟨s1, s2, s3⟩ := h.spare
  rw [← hn] at s1
  clear hn h
  obtain ⟨i0, hi0, hz0, hz1, hz2⟩ := info_parts recT_info
  obtain ⟨A, hA⟩ : ∃ A : Addr, (if cap = n then (some ⟨g, 0, none⟩ : Option Addr) else some ⟨g, n * 2, none⟩) = some A := by
    by_cases hh : cap = n
    · exact ⟨_, by rw [if_pos hh]⟩
    · exact ⟨_, by rw [if_neg hh]⟩
  have hic : i ≤ cap := by omega
  have hne : (i : Int) ≠ n := by omega
  have hcl : ∀ (W : World) ty, (∀ j, j < cap * 2 → (W.cell? ⟨g, j, none⟩).isSome = true ∧ W.frozen? ⟨g, j, none⟩ = false) → (Builtin.clear_ #[29] ty #[.slice (some ⟨g, i * 2, none⟩) (n - i) (cap - i)]).run Tryz.prog W = .ok (.tuple #[]) (W.setCells g (i * 2) (Builtin.zeroCells #[.int .u64 0, .slice none 0 0] (n - i)).toList) :=
    fun W ty hW => clear_recs W ty g (i * 2) (n - i) (cap - i) (by omega) (fun j hj => (hW _ (by omega)).1) (fun j hj => (hW _ (by omega)).2)
  have hc2 : ∀ ty, (Builtin.clear_ #[29] ty #[.slice (some ⟨g, i * 2, none⟩) (n - i) (cap - i)]).run Tryz.prog w.drew = .ok (.tuple #[]) (w.drew.setCells g (i * 2) (Builtin.zeroCells #[.int .u64 0, .slice none 0 0] (n - i)).toList) := fun ty => hcl w.drew ty s3
  clear s3 hcl
  go_enter Tryz.func33, Tryz.ntmps33
  go_wp2_with fail
  go_region_law (refine step_append_room rfl (.tmp 22) (.tmp 25) 29 rfl 40 i0 2 undR hi0 hz1 g 0 i cap (by simp [Act.eval, Act.put]) A 0 (cap - n) [] (by simp [Act.eval, Act.put]) (by simp) (fun j u hu => by simp at hu) (fun u hu => by simp at hu) (by omega) (fun j hj => by simp at hj) ?_; rw [show w.drew.setCells g (0 + i * 2) [] = w.drew from rfl])
  go_wp2
  go_ret
  exact ⟨rfl, 1, _, rfl⟩
end Go.Proofs.YtdbhicifjljjnaaGreatDoor
/-
  shorten: of a segment only the records ahead of an offset stay.
-/
namespace Go.Proofs.YtdbhicifjljjnaaGreatDoor
open Go.RowKit St
def sizeV : List Fr.Rc → Nat
  | [] => 0
  | r :: t => 16 + r.2.length + sizeV t
theorem sizeV_app : ∀ (a b : List Fr.Rc), sizeV (a ++ b) = sizeV a + sizeV b
  | [], b => by simp [sizeV]
  | r :: t, b => by show 16 + r.2.length + sizeV (t ++ b) = 16 + r.2.length + sizeV t + sizeV b; rw [sizeV_app t b]; omega
theorem sizeV_le : ∀ (rs : List Fr.Rc), (∀ r ∈ rs, r.2.length ≤ 1024) → sizeV rs ≤ 1040 * rs.length
  | [], _ => by simp [sizeV]
  | r :: t, h => by
    have ih := sizeV_le t fun x hx => h x (by simp [hx])
    have := h r (by simp)
    show 16 + r.2.length + sizeV t ≤ _
    rw [List.length_cons]; omega
/-- The records of segment i ahead of off, their bytes. -/
def segI (l : Wl.L) (i : Nat) : Int × Int := l.segs.getD i (0, 0)
def shA (l : Wl.L) (i : Nat) : Nat := ((segI l i).1 - Wl.firstV l).toNat
def shZ (l : Wl.L) (off : Int) : Nat := (off - Wl.firstV l).toNat
def shR (l : Wl.L) (i : Nat) (off : Int) : List Fr.Rc := (l.recs.take (shZ l off)).drop (shA l i)
def shN (l : Wl.L) (i : Nat) (off : Int) : Nat := sizeV (shR l i off)
def shE (s : S) (l : Wl.L) (i : Nat) (off : Int) : Int := if (shN l i off : Int) = (segI l i).2 then 0 else actE s (cutE s (nmS (segI l i).1) (shN l i off : Nat))
def shS (s : S) (l : Wl.L) (i : Nat) (off : Int) : S := if (shN l i off : Int) = (segI l i).2 then s else actS s (cutE s (nmS (segI l i).1) (shN l i off : Nat)) (cutL s (nmS (segI l i).1) (shN l i off))
def shL (s : S) (l : Wl.L) (i : Nat) (off : Int) : Wl.L := if shE s l i off = 0 then { l with segs := l.segs.set i ((segI l i).1, (shN l i off : Int)) } else l
theorem size2R (W : World) : (sizeOf 40).run Tryz.prog W = .ok 2 W := by kernel_rfl
theorem elemRc : Tryz.prog.elem 29 = 40 := by kernel_rfl
theorem undRc : Tryz.prog.underlying 29 = some (.slice (Tryz.prog.elem 29)) := by rw [elemRc]; exact Tryz.underlying29
theorem slice_midR (A : Option Addr) (n cap a z : Nat) (h1 : a ≤ z) (h2 : z ≤ cap) (W : World) :
    (Instr.slice 29 (.slice A n cap) (some (.int .i64 (a : Int))) (some (.int .i64 (z : Int))) none).run Tryz.prog W = .ok (.slice (tail2 A cap a) (z - a) (cap - a)) W := by
  rw [run_slice_lh (P := Tryz.prog) (w := W) 29 A n cap undRc .i64 .i64 (a : Int) (z : Int) (by omega) (by omega) (by omega), elemRc, size2R]
  simp [Result.andThen, sliced, tail2]
theorem WRun.rec_w {w0 w : World} {T Lb : Nat} {s : S} {l : Wl.L} {G : List (Nat × Obj)} {sa : Option Addr} {sc : Nat} {ra : Option Addr} {rc : Nat} (h : WRun w0 w T Lb s l G sa sc ra rc) {i : Nat} (hi : i < l.recs.length) :
    ∃ g A cap, ra = some ⟨g, 0, none⟩ ∧ w.cell? ⟨g, i * 2, none⟩ = some (.int .u64 (l.recs.getD i (0, [])).1) ∧ w.cell? ⟨g, i * 2 + 1, none⟩ = some (.slice A (l.recs.getD i (0, [])).2.length cap) := by
  obtain ⟨_, O, _, q, _⟩ := h
  obtain ⟨g, A, cap, e, d0, d1, _⟩ := q.rec_ hi
  exact ⟨g, A, cap, e, d0, d1⟩
theorem WRun.seg_free {w0 w : World} {T Lb : Nat} {s : S} {l : Wl.L} {G : List (Nat × Obj)} {g : Nat} {sc : Nat} {ra : Option Addr} {rc : Nat} (h : WRun w0 w T Lb s l G (some ⟨g, 0, none⟩) sc ra rc) {i : Nat} (hi : i < l.segs.length) : w.frozen? ⟨g, i * 2 + 1, none⟩ = false := by
  obtain ⟨_, O, _, q, _⟩ := h
  obtain ⟨s1, s2, s3⟩ := q.segs.spare
  rw [segV_len] at s1
  exact (s3 _ (by omega)).2
set_option maxRecDepth 20000 in
set_option maxHeartbeats 8000000 in
theorem shorten_any {w0 w : World} {T Lb : Nat} {s : S} {l : Wl.L} {G : List (Nat × Obj)} {g : Nat} {sc : Nat} {ra : Option Addr} {rc : Nat} (h : WRun w0 w T Lb s l G (some ⟨g, 0, none⟩) sc ra rc) (hF : Facts w0) (i : Nat) (hi : i < l.segs.length) (off : Int)
    (h1 : Wl.firstV l ≤ (segI l i).1) (h2 : (segI l i).1 ≤ off) (h3 : off ≤ Wl.endV l) (hinv : shE s l i off = 0 → Wl.Inv (shL s l i off)) :
    Calls Tryz.prog 32 #[.pointer (some ⟨Lb, 0, none⟩), .pointer (some ⟨g, i * 2, none⟩), .int .i64 off] w fun e w' => RetI (shE s l i off) e ∧ Hid (WRun w0 w' T Lb (shS s l i off) (shL s l i off) G (some ⟨g, 0, none⟩) sc ra rc) := by
  have H := Lib.hid h
  have HF := Lib.hid hF
  have HI := Lib.hid hi
  have hfv := h.inv.2.first_
  have hcnt := h.inv.2.count
  have hev : Wl.endV l = Wl.firstV l + (l.recs.length : Int) := rfl
  have FK : Hid (∀ k, Calls Tryz.prog 17 #[.pointer (some ⟨Lb, 0, none⟩)] (w.drewN k) fun e w' => e = .returned (.int .i64 (Wl.firstV l)) ∧ ∃ j, w' = w.drewN j) := Lib.hid (fun k => (first_w (WRun.draw h k)).mono fun _ _ ⟨h1, h2⟩ => ⟨h1, k, h2.symm⟩)
  obtain ⟨⟨c0, c1, c2, c3, c4⟩, _⟩ := obj5 (obj_w h)
  obtain ⟨g', hg', d0, d1⟩ := seg_w h hi
  obtain rfl : g = g' := by injection hg' with e; injection e
  have FR := h.inv.2.first (segI l i) (by unfold segI; rw [List.getD_eq_getElem?_getD, List.getElem?_eq_getElem hi]; exact List.getElem_mem _)
  have FZ := h.inv.2.size (segI l i) (by unfold segI; rw [List.getD_eq_getElem?_getD, List.getElem?_eq_getElem hi]; exact List.getElem_mem _)
  -- the records that stay
  have haz : shA l i ≤ shZ l off := by unfold shA shZ; omega
  have hzn : shZ l off ≤ l.recs.length := by unfold shZ; omega
  have SB := Lib.hid (sizeV_le (shR l i off) (fun r hr => h.inv.2.pay r (List.mem_of_mem_take (List.mem_of_mem_drop hr))))
  have RL : Hid ((shR l i off).length = shZ l off - shA l i) := Lib.hid (by unfold shR; rw [List.length_drop, List.length_take]; omega)
  have RG : Hid (∀ k, k < shZ l off - shA l i → (shR l i off).getD k (0, []) = l.recs.getD (shA l i + k) (0, [])) := Lib.hid (fun k hk => by
    unfold shR
    rw [List.getD_eq_getElem?_getD, List.getD_eq_getElem?_getD, List.getElem?_drop, List.getElem?_take_of_lt (by omega)])
  have SN : Hid (sizeV (shR l i off) = shN l i off) := Lib.hid rfl
  have EA : Hid (shE s l i off = if (shN l i off : Int) = (segI l i).2 then 0 else actE s (cutE s (nmS (segI l i).1) (shN l i off : Nat))) := Lib.hid rfl
  have ES : Hid (shS s l i off = if (shN l i off : Int) = (segI l i).2 then s else actS s (cutE s (nmS (segI l i).1) (shN l i off : Nat)) (cutL s (nmS (segI l i).1) (shN l i off))) := Lib.hid rfl
  have EL : Hid (shL s l i off = if shE s l i off = 0 then { l with segs := l.segs.set i ((segI l i).1, (shN l i off : Int)) } else l) := Lib.hid rfl
  have HV := Lib.hid hinv
  have SG : Hid (segI l i = l.segs.getD i (0, 0)) := Lib.hid rfl
  have ha : (segI l i).1 - Wl.firstV l = (shA l i : Int) := by unfold shA; omega
  have hz : off - Wl.firstV l = (shZ l off : Int) := by unfold shZ; omega
  replace d0 : w.cell? ⟨g, i * 2, none⟩ = some (.int .i64 (segI l i).1) := d0
  replace d1 : w.cell? ⟨g, i * 2 + 1, none⟩ = some (.int .i64 (segI l i).2) := d1
  have wa : IntKind.i64.wrap ((segI l i).1 - Wl.firstV l) = (shA l i : Int) := by rw [ha]; exact IntWalk.i64_in _ (by omega)
  have wz : IntKind.i64.wrap (off - Wl.firstV l) = (shZ l off : Int) := by rw [hz]; exact IntWalk.i64_in _ (by omega)
  obtain ⟨n, hn⟩ : ∃ n, n = l.recs.length := ⟨_, rfl⟩
  have HN := Lib.hid hn
  have hcap : l.recs.length ≤ rc ∧ ∀ k, k < l.recs.length → ∃ gr, ra = some ⟨gr, 0, none⟩ := by
    obtain ⟨_, O, _, q, _⟩ := h
    obtain ⟨vs, r1, r2, r3, r4⟩ := q.recs
    refine ⟨?_, fun k hk => ?_⟩
    · rcases r2.2 with ⟨e, e0⟩ | ⟨g', c', cur, e, hb, hg, hle, hm, hsz, htk⟩
      · omega
      · injection e with e1 e2 e3
        subst e3; omega
    · obtain ⟨gr, A, cap, e, _⟩ := q.rec_ hk
      exact ⟨gr, e⟩
  have SL := fun W => slice_midR ra n rc (shA l i) (shZ l off) haz (by omega) W
  rw [← hn] at c3
  obtain ⟨TA, hTA⟩ : ∃ TA, TA = tail2 ra rc (shA l i) := ⟨_, rfl⟩
  rw [← hTA] at SL
  have HTA := Lib.hid hTA
  clear hTA
  have hm : shZ l off - shA l i ≤ n := by omega
  have RA := Lib.hid hcap.2
  have HZ := Lib.hid (show shA l i + (shZ l off - shA l i) ≤ n by omega)
  have HRC := Lib.hid (show n ≤ rc by omega)
  have hn7 : (n : Int) ≤ 16777216 := by omega
  clear hcap h hi hinv h1 h2 h3 hev hg' hn ha hz hzn haz hcnt hF
  generalize hsi : segI l i = sg at *
  have HSI := Lib.hid hsi
  clear hsi
  obtain ⟨f, z⟩ := sg
  dsimp only at d0 d1 wa FR FZ EA ES EL
  generalize shA l i = a at *
  generalize shZ l off = zz at *
  generalize Wl.firstV l = fv at *
  generalize shR l i off = rs at *
  generalize hnn : shN l i off = nn at *
  generalize hm0 : zz - a = m at *
  go_enter Tryz.func32, Tryz.ntmps32
  go_upto_region 2 with fail
  go_quiet ((go_at_call 17; exact FK.out _))
  have HQ := Lib.hid (WRun.draw H.out nq)
  generalize w.drewN nq = wq at *
  clear c0 c1 c2 c3 c4 d0 d1 FK SL wa wz
  have WN : Hid (∀ k, k < m → IntKind.i64.wrap ((sizeV (rs.take k) : Int) + (16 + ((rs.getD k (0, [])).2.length : Int))) = (sizeV (rs.take (k + 1)) : Int)) := Lib.hid (fun k hk => by
    have hkl : k < rs.length := by rw [RL.out]; exact hk
    have e : rs.take (k + 1) = rs.take k ++ [rs.getD k (0, [])] := by
      rw [List.take_add_one, List.getElem?_eq_getElem hkl, List.getD_eq_getElem?_getD, List.getElem?_eq_getElem hkl]; rfl
    have e2 : sizeV rs = sizeV (rs.take (k + 1)) + sizeV (rs.drop (k + 1)) := by rw [← sizeV_app, List.take_append_drop]
    have e3 := SB.out
    rw [RL.out] at e3
    rw [e, sizeV_app] at e2 ⊢
    have e4 : sizeV [rs.getD k (0, [])] = 16 + (rs.getD k (0, [])).2.length := rfl
    rw [e4] at e2 ⊢
    rw [IntWalk.i64_in _ (by omega)]
    omega)
  go_wp2_with fail
  go_loopg [7, 28] m (fun q zv iv wr => ∃ k : Nat, k ≤ m ∧ q = m - k ∧ zv = .int .i64 (sizeV (rs.take k) : Int) ∧ iv = .int .i64 (k : Int) ∧ Hid (WRun w0 wr T Lb s l G (some ⟨g, 0, none⟩) sc ra rc))
  case atStart => exact ⟨0, Nat.zero_le _, rfl, rfl, rfl, HQ⟩
  case round =>
    obtain ⟨k, hk, hq, rfl, rfl, HR⟩ := hrel
    subst hq
    by_cases hlt : k < m
    · have hkl : a + k < l.recs.length := by have := HN.out; have := HZ.out; omega
      obtain ⟨gr, A, cap, hgr, e0, e1⟩ := WRun.rec_w HR.out hkl
      rw [← RG.out k hlt] at e0 e1
      have PB := Lib.hid (HR.out.inv.2.pay (l.recs.getD (a + k) (0, [])) (by rw [List.getD_eq_getElem?_getD, List.getElem?_eq_getElem hkl]; exact List.getElem_mem _))
      rw [← RG.out k hlt] at PB
      have WK := WN.out k hlt
      generalize sizeV (rs.take k) = zk at *
      generalize hz1 : sizeV (rs.take (k + 1)) = zk1 at *
      have HZ1 := Lib.hid hz1
      clear hz1
      generalize rs.getD k (0, []) = r at *
      obtain ⟨rt, rb⟩ := r
      dsimp only at e0 e1 PB WK
      generalize hrn : rb.length = rn at *
      have hta := HTA.out
      rw [hgr] at hta
      unfold tail2 at hta
      rw [if_neg (by have := HRC.out; have := HN.out; omega)] at hta
      replace hta : TA = some ⟨gr, a * 2, none⟩ := by rw [hta]; show some (Addr.add ⟨gr, 0, none⟩ (a * 2)) = _; rw [Addr.add_lit]; simp
      subst hta
      replace e0 : wr.cell? ⟨gr, a * 2 + k * 2, none⟩ = some (.int .u64 rt) := by rw [show a * 2 + k * 2 = (a + k) * 2 by omega]; exact e0
      replace e1 : wr.cell? ⟨gr, a * 2 + k * 2 + 1, none⟩ = some (.slice A rn cap) := by rw [show a * 2 + k * 2 = (a + k) * 2 by omega]; exact e1
      have hlt' : (k : Int) < (m : Int) := by omega
      have hk0 : 0 ≤ (k : Int) := by omega
      have SZ := Lib.hid (size_any (.int .u64 rt) A rn cap (by have := PB.out; omega) (wr.alloc (.cells #[.int .u64 rt, .slice A rn cap] 40)))
      have HRa := Lib.hid (WRun.alloc HR.out (.cells #[.int .u64 rt, .slice A rn cap] 40))
      clear hgr hkl hrn
      go_wp2_with fail
      (with_reducible refine SZ.out.mono ?_); rintro e w3 ⟨rfl, g3⟩
      have HR3 := Lib.hid (WRun.grow HRa.out g3.below)
      go_wp2
      go_roundg (m - (k + 1))
      case measure => omega
      case rel => exact ⟨k + 1, hlt, rfl, congrArg (fun x : Nat => Value.int .i64 (x : Int)) HZ1.out.symm, by go_num, HR3⟩
    · have e : k = m := by omega
      subst e
      have hge : ¬ (k : Int) < (k : Int) := by omega
      have TK : Hid (sizeV (rs.take k) = nn) := Lib.hid (by rw [← RL.out, List.take_length]; exact SN.out)
      rw [TK.out]
      clear WN hlt hk
      obtain ⟨⟨c0, _, _, _, _⟩, _⟩ := obj5 (obj_w HR.out)
      obtain ⟨g', hg', d0, d1⟩ := seg_w HR.out HI.out
      obtain rfl : g = g' := by injection hg' with e; injection e
      rw [← SG.out] at d0 d1
      replace d0 : wr.cell? ⟨g, i * 2, none⟩ = some (.int .i64 f) := d0
      replace d1 : wr.cell? ⟨g, i * 2 + 1, none⟩ = some (.int .i64 z) := d1
      clear hg'
      by_cases hzz : (nn : Int) = z
      · rw [if_pos hzz] at EA ES
        have ELL : Hid (shL s l i off = l) := Lib.hid (by
          rw [EL.out, EA.out, if_pos rfl, hzz, SG.out]
          have : l.segs.set i (l.segs.getD i (0, 0)) = l.segs := by
            rw [List.getD_eq_getElem?_getD, List.getElem?_eq_getElem HI.out]
            exact List.set_getElem_self HI.out
          rw [this])
        clear EL
        go_wp2
        go_ret
        refine ⟨by rw [EA.out]; rfl, ?_⟩
        rw [ES.out, ELL.out]; exact HR
      · rw [if_neg hzz] at EA ES
        rw [EA.out] at EL
        have HV2 : Hid (actE s (cutE s (nmS f) (nn : Nat)) = 0 → Wl.Inv { l with segs := l.segs.set i (f, (nn : Int)) }) := Lib.hid (fun h => by
          have := HV.out (by rw [EA.out]; exact h)
          rw [EL.out, if_pos h] at this
          exact this)
        have hne : ((nn : Int) == z) = false := beq_eq_false_iff_ne.2 hzz
        go_upto_region 9 with fail
        have SC : Hid (∀ w' s', WRun w0 w' T Lb s' l G (some ⟨g, 0, none⟩) sc ra rc → w'.cell? ⟨Lb, 0, none⟩ = some (.pointer (some ⟨T, 0, none⟩)) ∧ w'.cell? ⟨g, i * 2, none⟩ = some (.int .i64 f) ∧ w'.cell? ⟨g, i * 2 + 1, none⟩ = some (.int .i64 z)) := Lib.hid fun W s' h => by
          obtain ⟨⟨c0, _⟩, _⟩ := obj5 (obj_w h)
          obtain ⟨g', hg', d0, d1⟩ := seg_w h HI.out
          obtain rfl : g = g' := by injection hg' with e; injection e
          rw [← SG.out] at d0 d1
          exact ⟨c0, d0, d1⟩
        have TBd := Lib.hid (WRun.drew HR.out)
        have NM := Lib.hid (segname_any f z FR.1 FR.2 wr.drew (HF.out.below (WRun.below TBd.out)))
        have SY := Lib.hid (fun (W : World) (h : WRun w0 W T Lb s l G (some ⟨g, 0, none⟩) sc ra rc) => scut_w h f (nn : Int))
        clear c0 d0 d1
        rw [show ((nn : Int)).toNat = nn from rfl] at SY
        generalize actE s (cutE s (nmS f) (nn : Nat)) = er at *
        generalize actS s (cutE s (nmS f) (nn : Nat)) (cutL s (nmS f) nn) = s5 at *
        generalize Sg.nameB f = nb at *
        go_region_held3 (fun w' => w'.cell? ⟨Lb, 0, none⟩ = some (.pointer (some ⟨T, 0, none⟩)) ∧ w'.cell? ⟨g, i * 2, none⟩ = some (.int .i64 f) ∧ w'.cell? ⟨g, i * 2 + 1, none⟩ = some (.int .i64 z)) ((first | exact SC.out _ _ TBd.out | exact SC.out _ _ T3.out | exact SC.out _ _ T4.out | go_keep))
          (first
            | (go_simp; go_at_call 31; (with_reducible refine NM.out.mono ?_); rintro e w3 ⟨rfl, b3⟩; have T3 := Lib.hid (WRun.grow TBd.out b3.out))
            | (go_simp; go_at_call 47; (with_reducible refine (SY.out _ T3.out).mono ?_); rintro e w4 ⟨rfl, T4⟩))
        all_goals
          by_cases he : er = 0
          · subst he
            rw [if_pos rfl] at EL
            obtain ⟨d0, d1⟩ := (SC.out _ _ T4.out).2
            have z1 := WRun.seg_free T4.out HI.out
            have T5 := Lib.hid (WRun.sized T4.out HI.out (nn : Int) (by rw [← SG.out]; exact HV2.out rfl))
            rw [← SG.out] at T5
            go_wp2
            go_ret
            refine ⟨by rw [EA.out]; rfl, ?_⟩
            rw [ES.out, EL.out]; exact T5
          · rw [if_neg he] at EL
            have hne2 : (er != 0) = true := by simpa using he
            go_wp2
            go_ret
            refine ⟨by rw [EA.out]; rfl, ?_⟩
            rw [ES.out, EL.out]; exact T4
end Go.Proofs.YtdbhicifjljjnaaGreatDoor
