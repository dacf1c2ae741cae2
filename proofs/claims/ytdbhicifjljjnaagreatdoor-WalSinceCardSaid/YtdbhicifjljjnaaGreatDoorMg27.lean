/-
  Part 27 of the texts behind the law: WalLoad.
-/
import Derived.Test.YtdbhicifjljjnaaGreatDoorMg26
import Derived.Deep.LoopGhost
/-
  load: the segments are read as far as they form a log, the rest of them is removed.
-/
namespace Go.Proofs.YtdbhicifjljjnaaGreatDoor
open Go.RowKit St
theorem Nums.tail {w : World} {B : Nat} {A : Option Addr} {zs : List Int} (h : Nums w B A zs) (k cap : Nat) (hc : zs.length ≤ cap) : Nums w B (tailA A cap k) (zs.drop k) := by
  have hg : ∀ i, i < (zs.drop k).length → (zs.drop k).getD i 0 = zs.getD (k + i) 0 ∧ k + i < zs.length := fun i hi => by
    simp at hi
    rw [List.getD_eq_getElem?_getD, List.getD_eq_getElem?_getD, List.getElem?_drop]
    exact ⟨rfl, by omega⟩
  refine ⟨fun i hi => by rw [(hg i hi).1]; exact h.1 _ (hg i hi).2, fun hn => ?_⟩
  have hk := (hg 0 hn).2
  obtain ⟨b, off, rfl, hb, hcell⟩ := h.2 (by omega)
  refine ⟨b, off + k, ?_, hb, fun i hi => ?_⟩
  · unfold tailA
    rw [if_neg (by omega)]
    show some (Addr.add ⟨b, off, none⟩ k) = _
    rw [add_off]
  · rw [(hg i hi).1, Nat.add_assoc]
    exact hcell _ (hg i hi).2
theorem size1I (W : World) : (sizeOf 2).run Tryz.prog W = .ok 1 W := by kernel_rfl
theorem elemI : Tryz.prog.elem 83 = 2 := by kernel_rfl
theorem undI : Tryz.prog.underlying 83 = some (.slice (Tryz.prog.elem 83)) := by rw [elemI]; exact Tryz.underlying83
theorem slice_fromI (A : Option Addr) (n cap k : Nat) (h : k ≤ n) (ik : IntKind) (W : World) :
    (Instr.slice 83 (.slice A n cap) (some (.int ik (k : Int))) none none).run Tryz.prog W = .ok (.slice (tailA A cap k) (n - k) (cap - k)) W := by
  rw [run_slice_l (P := Tryz.prog) (w := W) 83 A n cap undI ik k (by omega) (by omega), elemI, size1I]
  simp [Result.andThen, sliced, tailA]
def loadF : List Int → S → Wl.L → Bool → S × Wl.L × List Int
  | [], s, l, _ => (s, l, [])
  | f :: r, s, l, b => if b = true ∧ (l.segs.length = 0 ∨ f = Wl.endV l) then loadF r (ldS s l f) (ldL s l f) (decide (ldN s l f = (ldZ s f).length)) else (s, l, f :: r)
def okF : List Int → S → Wl.L → Bool → Prop
  | [], _, _, _ => True
  | f :: r, s, l, b => if b = true ∧ (l.segs.length = 0 ∨ f = Wl.endV l) then
      (0 ≤ f ∧ f ≤ 17592186044415 ∧ readE s (nmS f) = 0 ∧ (ldZ s f).length ≤ 16777216 ∧ Wl.Inv (ldL1 s l f) ∧ Wl.Inv (ldL s l f) ∧ ldE s l f = 0) ∧ okF r (ldS s l f) (ldL s l f) (decide (ldN s l f = (ldZ s f).length))
    else True
def dropF : List Int → S → S
  | [], s => s
  | f :: r, s => dropF r (actS s (fnd s (nmS f) [nmS f]) (del (nmS f) s.fs))
def okD : List Int → S → Prop
  | [], _ => True
  | f :: r, s => (0 ≤ f ∧ f ≤ 17592186044415 ∧ actE s (fnd s (nmS f) [nmS f]) = 0) ∧ okD r (actS s (fnd s (nmS f) [nmS f]) (del (nmS f) s.fs))
set_option maxRecDepth 20000 in
set_option maxHeartbeats 8000000 in
theorem load_any {w0 w : World} {T Lb : Nat} {s : S} {l : Wl.L} {G : List (Nat × Obj)} {sa : Option Addr} {sc : Nat} {ra : Option Addr} {rc : Nat} (h : WRun w0 w T Lb s l G sa sc ra rc) (hF : Facts w0)
    (A : Option Addr) (n cap : Nat) (zs : List Int) (hn : n = zs.length) (hcap : n ≤ cap) (hl : n ≤ 1000000) (hA : ∀ W s l sa sc ra rc, WRun w0 W T Lb s l G sa sc ra rc → Nums W W.heap.size A zs)
    (ho : okF zs s l true) (hd : okD (loadF zs s l true).2.2 (loadF zs s l true).1) :
    Calls Tryz.prog 36 #[.pointer (some ⟨Lb, 0, none⟩), .slice A n cap] w fun e w' => RetI 0 e ∧ Hid (∃ sa' sc' ra' rc', WRun w0 w' T Lb (dropF (loadF zs s l true).2.2 (loadF zs s l true).1) (loadF zs s l true).2.1 G sa' sc' ra' rc') := by
  obtain ⟨R, hR⟩ : ∃ R, R = loadF zs s l true := ⟨_, rfl⟩
  rw [← hR] at hd ⊢
  have H := Lib.hid h
  have HF := Lib.hid hF
  have HO := Lib.hid ho
  have HD := Lib.hid hd
  have HR := Lib.hid hR.symm
  have HA := Lib.hid hA
  have HCAP := Lib.hid hcap
  have HN := Lib.hid hn
  have hl' : (n : Int) ≤ 1000000 := by omega
  clear h hF ho hd hR hA
  go_enter Tryz.func36, Tryz.ntmps36
  go_wp2_with fail
  go_loopg [1, 5] n (fun q fv bv wr => ∃ (r : List Int) (A' : Option Addr) (m c' : Nat) (b : Bool) (s' : S) (l' : Wl.L) (sa' : Option Addr) (sc' : Nat) (ra' : Option Addr) (rc' : Nat), q = m ∧ Hid (m = r.length) ∧ m ≤ n ∧ Hid (m ≤ c') ∧ fv = .slice A' m c' ∧ bv = .bool b ∧ Hid (∀ W s l sa sc ra rc, WRun w0 W T Lb s l G sa sc ra rc → Nums W W.heap.size A' r) ∧ Hid (WRun w0 wr T Lb s' l' G sa' sc' ra' rc') ∧ Hid (loadF r s' l' b = R) ∧ Hid (okF r s' l' b))
  case atStart => exact ⟨zs, A, n, cap, true, s, l, sa, sc, ra, rc, rfl, HN, Nat.le_refl _, HCAP, rfl, rfl, HA, H, HR, HO⟩
  case round =>
    obtain ⟨r, A', m, c', b, s', l', sa', sc', ra', rc', hqm, HM, hmn, HC, rfl, rfl, HA1, H1, HR1, HO1⟩ := hrel
    obtain rfl := hqm.symm
    have SC0 : Hid (∀ W s l sa sc ra rc, WRun w0 W T Lb s l G sa sc ra rc → W.cell? ⟨Lb, 2, none⟩ = some (.slice sa l.segs.length sc)) := Lib.hid fun W s l sa sc ra rc hW => by
      obtain ⟨⟨_, _, c2, _⟩, _⟩ := obj5 (obj_w hW)
      exact c2
    match r, b with
    | [], b =>
      have hm0 : ¬ 0 < (m : Int) := by have e : m = 0 := HM.out; omega
      have HR2 : Hid (R = (s', l', [])) := Lib.hid (by rw [← HR1.out, loadF])
      obtain ⟨RL, hRL⟩ : ∃ RL : List Int, RL = [] := ⟨_, rfl⟩
      rw [← hRL] at HM HA1 HR2
      clear SC0 hRL
      cases b
      all_goals
        go_wp2
        have HD2 : Hid (okD RL s') := Lib.hid (by have := HD.out; rw [HR2.out] at this; exact this)
        have er := HR2.out
        clear HD HR HR1 HO1 HO HR2 H HA
        subst er
        go_loopw [45] (fun iv wr => ∃ (i : Nat) (s2 : S), i ≤ m ∧ iv = .int .i64 i ∧ Hid (WRun w0 wr T Lb s2 l' G sa' sc' ra' rc') ∧ Hid (dropF (RL.drop i) s2 = dropF RL s') ∧ Hid (okD (RL.drop i) s2)) (fun iv _ => m - (intOf iv).toNat)
        case atStart => exact ⟨0, s', Nat.zero_le _, rfl, H1, Lib.hid rfl, HD2⟩
        case round =>
          obtain ⟨i, s2, hi, rfl, H2, HE, HK⟩ := hrel
          by_cases hlt : i < m
          · have hlt' : (i : Int) < (m : Int) := by omega
            obtain ⟨b7, off7, f2, hae, hb, hc, hf, f0, f1⟩ := (HA1.out _ _ _ _ _ _ _ H2.out).at_ (k := i) (by rw [← HM.out]; exact hlt)
            first | subst hae | (injection hae with hae; injection hae with h71 h72; subst h71 h72)
            have DR : Hid (RL.drop i = f2 :: RL.drop (i + 1)) := Lib.hid (by
              have hl : i < RL.length := by rw [← HM.out]; exact hlt
              rw [List.drop_eq_getElem_cons hl]
              have := hf.out
              rw [List.getD_eq_getElem?_getD, List.getElem?_eq_getElem hl] at this
              rw [show RL[i] = f2 from this])
            have HK2 := HK.out
            rw [DR.out] at HK2
            obtain ⟨⟨k1, k2, k3⟩, k4⟩ := HK2
            have HE2 : Hid (dropF (RL.drop (i + 1)) (actS s2 (fnd s2 (nmS f2) [nmS f2]) (del (nmS f2) s2.fs)) = dropF RL s') := Lib.hid (by have := HE.out; rw [DR.out] at this; exact this)
            have K4 := Lib.hid k4
            have H2d := Lib.hid (WRun.drew H2.out)
            have NM := Lib.hid (segname_any f2 0 k1 k2 wr.drew (HF.out.below (WRun.below H2d.out)))
            have DP := Lib.hid (fun (W : World) (hW : WRun w0 W T Lb s2 l' G sa' sc' ra' rc') => sdrop_w hW f2)
            rw [k3] at DP
            have SC : Hid (∀ W s, WRun w0 W T Lb s l' G sa' sc' ra' rc' → W.cell? ⟨Lb, 0, none⟩ = some (.pointer (some ⟨T, 0, none⟩))) := Lib.hid fun W s hW => by
              obtain ⟨⟨c0, _⟩, _⟩ := obj5 (obj_w hW)
              exact c0
            clear k1 k2 k3 k4 DR HK HE hb hf f0 f1
            generalize actS s2 (fnd s2 (nmS f2) [nmS f2]) (del (nmS f2) s2.fs) = s3 at *
            generalize Sg.nameB f2 = nb at *
            go_wp2_with fail
            go_region_held3 (fun w' => w'.cell? ⟨Lb, 0, none⟩ = some (.pointer (some ⟨T, 0, none⟩))) ((first | exact SC.out _ _ H2d.out | exact SC.out _ _ H3.out | exact SC.out _ _ H4.out | go_keep))
              (first
                | (go_simp; go_at_call 31; (with_reducible refine NM.out.mono ?_); rintro e w3 ⟨rfl, b3⟩; have H3 := Lib.hid (WRun.grow H2d.out b3.out))
                | (go_simp; go_at_call 30; (with_reducible refine (DP.out _ H3.out).mono ?_); rintro e w4 ⟨rfl, H4⟩))
            all_goals
              go_wp2
              go_roundw
              case rel => exact ⟨i + 1, s3, by omega, by go_num, H4, HE2, K4⟩
              case measure => simp [intOf]; omega
          · obtain rfl : i = m := by omega
            have E : Hid (dropF RL s' = s2) := Lib.hid (by rw [← HE.out, HM.out, List.drop_length]; rfl)
            clear HE HK HA1 HM
            go_wp2
            go_ret
            exact ⟨rfl, Lib.hid ⟨sa', sc', ra', rc', by rw [E.out]; exact H2.out⟩⟩
    | f :: r', false =>
      have HR2 : Hid (R = (s', l', f :: r')) := Lib.hid (by rw [← HR1.out, loadF, if_neg (by simp)])
      obtain ⟨RL, hRL⟩ : ∃ RL : List Int, RL = f :: r' := ⟨_, rfl⟩
      rw [← hRL] at HM HA1 HR2
      clear SC0 hRL
      go_wp2
      have HD2 : Hid (okD RL s') := Lib.hid (by have := HD.out; rw [HR2.out] at this; exact this)
      have er := HR2.out
      clear HD HR HR1 HO1 HO HR2 H HA
      subst er
      go_loopw [45] (fun iv wr => ∃ (i : Nat) (s2 : S), i ≤ m ∧ iv = .int .i64 i ∧ Hid (WRun w0 wr T Lb s2 l' G sa' sc' ra' rc') ∧ Hid (dropF (RL.drop i) s2 = dropF RL s') ∧ Hid (okD (RL.drop i) s2)) (fun iv _ => m - (intOf iv).toNat)
      case atStart => exact ⟨0, s', Nat.zero_le _, rfl, H1, Lib.hid rfl, HD2⟩
      case round =>
        obtain ⟨i, s2, hi, rfl, H2, HE, HK⟩ := hrel
        by_cases hlt : i < m
        · have hlt' : (i : Int) < (m : Int) := by omega
          obtain ⟨b7, off7, f2, hae, hb, hc, hf, f0, f1⟩ := (HA1.out _ _ _ _ _ _ _ H2.out).at_ (k := i) (by rw [← HM.out]; exact hlt)
          first | subst hae | (injection hae with hae; injection hae with h71 h72; subst h71 h72)
          have DR : Hid (RL.drop i = f2 :: RL.drop (i + 1)) := Lib.hid (by
            have hl : i < RL.length := by rw [← HM.out]; exact hlt
            rw [List.drop_eq_getElem_cons hl]
            have := hf.out
            rw [List.getD_eq_getElem?_getD, List.getElem?_eq_getElem hl] at this
            rw [show RL[i] = f2 from this])
          have HK2 := HK.out
          rw [DR.out] at HK2
          obtain ⟨⟨k1, k2, k3⟩, k4⟩ := HK2
          have HE2 : Hid (dropF (RL.drop (i + 1)) (actS s2 (fnd s2 (nmS f2) [nmS f2]) (del (nmS f2) s2.fs)) = dropF RL s') := Lib.hid (by have := HE.out; rw [DR.out] at this; exact this)
          have K4 := Lib.hid k4
          have H2d := Lib.hid (WRun.drew H2.out)
          have NM := Lib.hid (segname_any f2 0 k1 k2 wr.drew (HF.out.below (WRun.below H2d.out)))
          have DP := Lib.hid (fun (W : World) (hW : WRun w0 W T Lb s2 l' G sa' sc' ra' rc') => sdrop_w hW f2)
          rw [k3] at DP
          have SC : Hid (∀ W s, WRun w0 W T Lb s l' G sa' sc' ra' rc' → W.cell? ⟨Lb, 0, none⟩ = some (.pointer (some ⟨T, 0, none⟩))) := Lib.hid fun W s hW => by
            obtain ⟨⟨c0, _⟩, _⟩ := obj5 (obj_w hW)
            exact c0
          clear k1 k2 k3 k4 DR HK HE hb hf f0 f1
          generalize actS s2 (fnd s2 (nmS f2) [nmS f2]) (del (nmS f2) s2.fs) = s3 at *
          generalize Sg.nameB f2 = nb at *
          go_wp2_with fail
          go_region_held3 (fun w' => w'.cell? ⟨Lb, 0, none⟩ = some (.pointer (some ⟨T, 0, none⟩))) ((first | exact SC.out _ _ H2d.out | exact SC.out _ _ H3.out | exact SC.out _ _ H4.out | go_keep))
            (first
              | (go_simp; go_at_call 31; (with_reducible refine NM.out.mono ?_); rintro e w3 ⟨rfl, b3⟩; have H3 := Lib.hid (WRun.grow H2d.out b3.out))
              | (go_simp; go_at_call 30; (with_reducible refine (DP.out _ H3.out).mono ?_); rintro e w4 ⟨rfl, H4⟩))
          all_goals
            go_wp2
            go_roundw
            case rel => exact ⟨i + 1, s3, by omega, by go_num, H4, HE2, K4⟩
            case measure => simp [intOf]; omega
        · obtain rfl : i = m := by omega
          have E : Hid (dropF RL s' = s2) := Lib.hid (by rw [← HE.out, HM.out, List.drop_length]; rfl)
          clear HE HK HA1 HM
          go_wp2
          go_ret
          exact ⟨rfl, Lib.hid ⟨sa', sc', ra', rc', by rw [E.out]; exact H2.out⟩⟩
    | f :: r', true =>
      have hm1 : 0 < m := by rw [HM.out]; simp
      have hm1' : 0 < (m : Int) := by omega
      obtain ⟨b1, off, f', rfl, hb, hc, hf, f0, f1⟩ := (HA1.out _ _ _ _ _ _ _ H1.out).at_ (k := 0) (by simp)
      obtain rfl : f = f' := by simpa using hf.out
      rw [Nat.add_zero] at hc
      have EN := Lib.hid (fun k => end_w (WRun.draw H1.out k))
      have c2 := SC0.out _ _ _ _ _ _ _ H1.out
      by_cases hseg : l'.segs.length = 0 ∨ f = Wl.endV l'
      · have HOK := HO1.out
        rw [okF, if_pos ⟨rfl, hseg⟩] at HOK
        have HRK := HR1.out
        rw [loadF, if_pos ⟨rfl, hseg⟩] at HRK
        obtain ⟨⟨q1, q2, q3, q4, q5, q6, q7⟩, q8⟩ := HOK
        have HRK1 := Lib.hid HRK
        have HOK1 := Lib.hid q8
        have LO := Lib.hid (fun (W : World) (hW : WRun w0 W T Lb s' l' G sa' sc' ra' rc') => loadone_any hW HF.out f q1 q2 q3 q4 q5 q6)
        unfold LoadPost at LO
        rw [q7] at LO
        have sl : ∀ W, (Instr.slice 83 (.slice (some ⟨b1, off, none⟩) m c') (some (.int .i64 1)) none none).run Tryz.prog W = .ok (.slice (tailA (some ⟨b1, off, none⟩) c' 1) (m - 1) (c' - 1)) W := fun W => slice_fromI (some ⟨b1, off, none⟩) m c' 1 (by omega) .i64 W
        have HA2 : Hid (∀ W s l sa sc ra rc, WRun w0 W T Lb s l G sa sc ra rc → Nums W W.heap.size (tailA (some ⟨b1, off, none⟩) c' 1) r') := Lib.hid fun W s l sa sc ra rc hW => (HA1.out W s l sa sc ra rc hW).tail 1 c' (by rw [← HM.out]; exact HC.out)
        have HM2 : Hid (m - 1 = r'.length) := Lib.hid (by have := HM.out; simp at this; omega)
        have HC2 : Hid (m - 1 ≤ c' - 1) := Lib.hid (by have := HC.out; omega)
        clear HR1 HO1 HRK q1 q2 q3 q4 q5 q6 q7 q8 SC0 hf f0 f1 hb HA1 HM HC
        generalize hwh : decide (ldN s' l' f = (ldZ s' f).length) = wh at *
        generalize ldS s' l' f = s3 at *
        generalize ldL s' l' f = l3 at *
        clear hwh
        have EN2 : Hid (∀ k, Calls Tryz.prog 12 #[.pointer (some ⟨Lb, 0, none⟩)] (wr.drewN k) fun e w' => e = .returned (.int .i64 (Wl.endV l')) ∧ ∃ j, w' = wr.drewN j) := Lib.hid fun k => (EN.out k).mono fun _ _ ⟨h1, j, h2⟩ => ⟨h1, k + j, by rw [h2]; exact drewN_drewN _ _ _⟩
        clear EN
        by_cases h0 : l'.segs.length = 0
        · have hd0 : decide (0 < l'.segs.length) = false := decide_eq_false (by omega)
          clear hseg h0
          generalize l'.segs.length = ls at *
          go_wp2_with fail
          go_quiet (fail)
          have H3 := Lib.hid (WRun.draw H1.out nq)
          have hc2 : (wr.drewN nq).cell? ⟨b1, off, none⟩ = some (.int .i64 f) := hc
          generalize wr.drewN nq = w3 at *
          go_wp2_with fail
          (with_reducible refine (LO.out _ H3.out).mono ?_); rintro e w4 ⟨rfl, H4⟩
          obtain ⟨sa4, sc4, ra4, rc4, h4⟩ := H4.out
          go_wp2
          go_roundg (m - 1)
          case measure => omega
          case rel => exact ⟨r', _, m - 1, c' - 1, wh, s3, l3, sa4, sc4, ra4, rc4, rfl, HM2, by omega, HC2, rfl, rfl, HA2, Lib.hid h4, HRK1, HOK1⟩
        · have hfe : f = Wl.endV l' := by rcases hseg with h | h; exact absurd h h0; exact h
          rw [← hfe] at EN2
          have hd0 : decide (0 < l'.segs.length) = true := decide_eq_true (by omega)
          clear hseg h0 hfe
          generalize l'.segs.length = ls at *
          go_wp2_with fail
          go_quiet ((go_at_call 12; exact EN2.out _))
          have H3 := Lib.hid (WRun.draw H1.out nq)
          have hc2 : (wr.drewN nq).cell? ⟨b1, off, none⟩ = some (.int .i64 f) := hc
          generalize wr.drewN nq = w3 at *
          go_wp2_with fail
          (with_reducible refine (LO.out _ H3.out).mono ?_); rintro e w4 ⟨rfl, H4⟩
          obtain ⟨sa4, sc4, ra4, rc4, h4⟩ := H4.out
          go_wp2
          go_roundg (m - 1)
          case measure => omega
          case rel => exact ⟨r', _, m - 1, c' - 1, wh, s3, l3, sa4, sc4, ra4, rc4, rfl, HM2, by omega, HC2, rfl, rfl, HA2, Lib.hid h4, HRK1, HOK1⟩
      · have HR2 : Hid (R = (s', l', f :: r')) := Lib.hid (by rw [← HR1.out, loadF, if_neg (fun hh => hseg hh.2)])
        obtain ⟨RL, hRL⟩ : ∃ RL : List Int, RL = f :: r' := ⟨_, rfl⟩
        have HRL := Lib.hid hRL
        rw [← hRL] at HM HA1 HR2
        clear hRL HRL
        have h0 : l'.segs.length ≠ 0 := fun h => hseg (Or.inl h)
        have hne : (f == Wl.endV l') = false := by rw [beq_eq_false_iff_ne]; exact fun h => hseg (Or.inr h)
        have EN2 : Hid (∀ k, Calls Tryz.prog 12 #[.pointer (some ⟨Lb, 0, none⟩)] (wr.drewN k) fun e w' => e = .returned (.int .i64 (Wl.endV l')) ∧ ∃ j, w' = wr.drewN j) := Lib.hid fun k => (EN.out k).mono fun _ _ ⟨h1, j, h2⟩ => ⟨h1, k + j, by rw [h2]; exact drewN_drewN _ _ _⟩
        generalize Wl.endV l' = en at *
        have hd0 : decide (0 < l'.segs.length) = true := decide_eq_true (by omega)
        clear hseg h0 EN SC0 hf f0 f1 hb
        generalize l'.segs.length = ls at *
        go_wp2_with fail
        go_quiet ((go_at_call 12; exact EN2.out _))
        have H3 := Lib.hid (WRun.draw H1.out nq)
        generalize wr.drewN nq = w3 at *
        clear H1 EN2 hc c2
        have H1 := H3
        clear H3
        go_wp2
        clear hd0 hne
        generalize (f != en) = bb
        have HD2 : Hid (okD RL s') := Lib.hid (by have := HD.out; rw [HR2.out] at this; exact this)
        have er := HR2.out
        clear HD HR HR1 HO1 HO HR2 H HA
        subst er
        go_loopw [45] (fun iv wr => ∃ (i : Nat) (s2 : S), i ≤ m ∧ iv = .int .i64 i ∧ Hid (WRun w0 wr T Lb s2 l' G sa' sc' ra' rc') ∧ Hid (dropF (RL.drop i) s2 = dropF RL s') ∧ Hid (okD (RL.drop i) s2)) (fun iv _ => m - (intOf iv).toNat)
        case atStart => exact ⟨0, s', Nat.zero_le _, rfl, H1, Lib.hid rfl, HD2⟩
        case round =>
          obtain ⟨i, s2, hi, rfl, H2, HE, HK⟩ := hrel
          by_cases hlt : i < m
          · have hlt' : (i : Int) < (m : Int) := by omega
            obtain ⟨b7, off7, f2, hae, hb, hc, hf, f0, f1⟩ := (HA1.out _ _ _ _ _ _ _ H2.out).at_ (k := i) (by rw [← HM.out]; exact hlt)
            first | subst hae | (injection hae with hae; injection hae with h71 h72; subst h71 h72)
            have DR : Hid (RL.drop i = f2 :: RL.drop (i + 1)) := Lib.hid (by
              have hl : i < RL.length := by rw [← HM.out]; exact hlt
              rw [List.drop_eq_getElem_cons hl]
              have := hf.out
              rw [List.getD_eq_getElem?_getD, List.getElem?_eq_getElem hl] at this
              rw [show RL[i] = f2 from this])
            have HK2 := HK.out
            rw [DR.out] at HK2
            obtain ⟨⟨k1, k2, k3⟩, k4⟩ := HK2
            have HE2 : Hid (dropF (RL.drop (i + 1)) (actS s2 (fnd s2 (nmS f2) [nmS f2]) (del (nmS f2) s2.fs)) = dropF RL s') := Lib.hid (by have := HE.out; rw [DR.out] at this; exact this)
            have K4 := Lib.hid k4
            have H2d := Lib.hid (WRun.drew H2.out)
            have NM := Lib.hid (segname_any f2 0 k1 k2 wr.drew (HF.out.below (WRun.below H2d.out)))
            have DP := Lib.hid (fun (W : World) (hW : WRun w0 W T Lb s2 l' G sa' sc' ra' rc') => sdrop_w hW f2)
            rw [k3] at DP
            have SC : Hid (∀ W s, WRun w0 W T Lb s l' G sa' sc' ra' rc' → W.cell? ⟨Lb, 0, none⟩ = some (.pointer (some ⟨T, 0, none⟩))) := Lib.hid fun W s hW => by
              obtain ⟨⟨c0, _⟩, _⟩ := obj5 (obj_w hW)
              exact c0
            clear k1 k2 k3 k4 DR HK HE hb hf f0 f1
            generalize actS s2 (fnd s2 (nmS f2) [nmS f2]) (del (nmS f2) s2.fs) = s3 at *
            generalize Sg.nameB f2 = nb at *
            go_wp2_with fail
            go_region_held3 (fun w' => w'.cell? ⟨Lb, 0, none⟩ = some (.pointer (some ⟨T, 0, none⟩))) ((first | exact SC.out _ _ H2d.out | exact SC.out _ _ H3.out | exact SC.out _ _ H4.out | go_keep))
              (first
                | (go_simp; go_at_call 31; (with_reducible refine NM.out.mono ?_); rintro e w3 ⟨rfl, b3⟩; have H3 := Lib.hid (WRun.grow H2d.out b3.out))
                | (go_simp; go_at_call 30; (with_reducible refine (DP.out _ H3.out).mono ?_); rintro e w4 ⟨rfl, H4⟩))
            all_goals
              go_wp2
              go_roundw
              case rel => exact ⟨i + 1, s3, by omega, by go_num, H4, HE2, K4⟩
              case measure => simp [intOf]; omega
          · obtain rfl : i = m := by omega
            have E : Hid (dropF RL s' = s2) := Lib.hid (by rw [← HE.out, HM.out, List.drop_length]; rfl)
            clear HE HK HA1 HM
            go_wp2
            go_ret
            exact ⟨rfl, Lib.hid ⟨sa', sc', ra', rc', by rw [E.out]; exact H2.out⟩⟩
end Go.Proofs.YtdbhicifjljjnaaGreatDoor
