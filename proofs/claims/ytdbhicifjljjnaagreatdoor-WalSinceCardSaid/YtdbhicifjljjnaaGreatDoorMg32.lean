/-
  Part 32 of the texts behind the law: WalSinceW.
-/
import Derived.Test.YtdbhicifjljjnaaGreatDoorMg31
/-
  The law WalSince: Since and Get return the appended records.
-/
namespace Go.Proofs.YtdbhicifjljjnaaGreatDoor
open Go.RowKit St
def TruePost (w0 : World) (e : Ending) (w' : World) : Prop := e = .returned (.bool true) ∧ Below w0.heap.size w0 w'
set_option maxRecDepth 20000 in
set_option maxHeartbeats 8000000 in
theorem since_core (A0 : Option Addr) (ps : List (List Int)) (cap0 : Nat) (off most : Int) (h20 : ps.length ≤ 20) (m0 : 0 ≤ most) (m1 : most ≤ 30) (o0 : -9223372036854775808 ≤ off) (o1 : off ≤ 9223372036854775807) (w : World) (hm : Mat2 w w.heap.size A0 ps) (hF : Facts w) :
    Calls Tryz.prog 4 #[.slice A0 ps.length cap0, .int .i64 off, .int .i64 most] w (TruePost w) := by
  have HM := Lib.hid hm
  have HF := Lib.hid hF
  have AW := Lib.hid (awake_any (w0 := w) (Below.refl _ _) hF)
  obtain ⟨n, hn⟩ : ∃ n, n = ps.length := ⟨_, rfl⟩
  rw [← hn] at h20 ⊢
  have HN := Lib.hid hn
  have h20' : (n : Int) ≤ 20 := by omega
  clear hm hF hn
  go_enter Tryz.func4, Tryz.ntmps4
  go_wp2_with fail
  (with_reducible refine AW.out.mono ?_); rintro e w1 ⟨rfl, B1⟩
  clear AW
  have BG := Lib.hid (begun_any B1.out HF.out 100 (by decide) (by decide))
  have c1 : ¬ (20 : Int) < (n : Int) := by omega
  have c2 : ¬ most < 0 := by omega
  have c3 : ¬ (30 : Int) < most := by omega
  go_wp2_with fail
  (with_reducible refine BG.out.mono ?_); rintro e w2 ⟨Lb, T, rfl, H2⟩
  clear BG B1 c1 c2 c3
  have L2 : Hid (LiveAt w w2 T Lb 100 (recsX 1 [] ps 0) 0 []) := Lib.hid (by obtain ⟨sa, sc, ra, rc, h⟩ := H2.out; rw [recsX_zero]; exact LiveAt.of h)
  clear H2
  go_wp2_with fail
  go_loopg [9] n (fun q iv wr => ∃ i : Nat, i ≤ n ∧ q = n - i ∧ iv = .int .i64 (i : Int) ∧ Hid (LiveAt w wr T Lb 100 (recsX 1 [] ps i) 0 []))
  case atStart => exact ⟨0, Nat.zero_le _, rfl, rfl, L2⟩
  case round =>
    obtain ⟨i, hi, hq, rfl, HL⟩ := hrel
    subst hq
    by_cases hlt : i < n
    · have hlp : i < ps.length := by rw [← HN.out]; exact hlt
      have hlt' : (i : Int) < (n : Int) := by omega
      have hi0 : 0 ≤ (i : Int) := by omega
      obtain ⟨b, o, Ai, ci, rfl, hbb, hc0, hby, hat, _⟩ := HM.out.at_ hlp
      have hc := ((LiveAt.below HL.out).cell (p := ⟨b, o + i, none⟩) hbb.out).trans hc0
      clear hc0
      have RS := Lib.hid (recsX_succ 1 [] ps i)
      generalize hp : ps.getD i [] = p at *
      obtain ⟨pn, hpn⟩ : ∃ pn, pn = p.length := ⟨_, rfl⟩
      rw [← hpn] at hc
      have HPN := Lib.hid hpn
      clear hp hpn
      by_cases h100 : 100 < pn
      · have h100' : (100 : Int) < (pn : Int) := by omega
        go_wp2
        go_ret
        exact ⟨rfl, LiveAt.below HL.out⟩
      · have h100' : ¬ (100 : Int) < (pn : Int) := by omega
        have AP := Lib.hid (append_live HL.out HF.out 1 (by decide) (by decide) (recsX_ep ps i (by decide) (by decide) (by decide) (by simp; omega)) Ai pn ci p HPN.out (by omega) (by rw [recsX_len]; simp; omega) (by have := hat.out; rw [← HPN.out]; rw [← HPN.out] at this; exact this)
          (fun W s l G' sa sc ra rc hW => (hby.out.below (WRun.below hW)).more (WRun.below hW).size))
        go_wp2_with fail
        (with_reducible refine AP.out.mono ?_); rintro e w3 ⟨rfl, L3⟩
        rw [← RS.out] at L3
        go_wp2
        go_roundg (n - (i + 1))
        case measure => omega
        case rel => exact ⟨i + 1, hlt, rfl, by go_num, L3⟩
    · have e : i = n := by omega
      subst e
      clear hlt hi L2
      have SI := Lib.hid (since_live HL.out off most o0 o1 (by omega) (by omega))
      obtain ⟨d, hd⟩ : ∃ d, d = (max off 0).toNat := ⟨_, rfl⟩
      rw [← hd] at SI
      obtain ⟨L, hL⟩ : ∃ L, L = ((recsX 1 [] ps i).drop d).take most.toNat := ⟨_, rfl⟩
      rw [← hL] at SI
      have LLEN : Hid (L.length = min (i - d) most.toNat) := Lib.hid (by rw [hL, List.length_take, List.length_drop, recsX_len]; simp; omega)
      have LGET : Hid (∀ k, k < L.length → L.getD k (0, []) = (Pl.packV 1 ((d + k : Nat) : Int), ps.getD (d + k) []) ∧ d + k < i) := Lib.hid (fun k hk => by
        have hk2 := hk
        rw [LLEN.out] at hk2
        refine ⟨?_, by omega⟩
        have := recsX_get (ep := 1) (rs0 := []) (ps := ps) (i := i) (k := d + k) (by omega)
        simp only [List.length_nil, Nat.zero_add] at this
        rw [← this, hL, List.getD_eq_getElem?_getD, List.getElem?_take_of_lt (by omega), List.getElem?_drop, ← List.getD_eq_getElem?_getD])
      have hdm : max off 0 = (d : Int) := by omega
      have HD := Lib.hid hdm
      have hdb : (d : Int) ≤ 9223372036854775807 := by omega
      clear hd hL hdm
      obtain ⟨cnt, hcnt⟩ : ∃ cnt, cnt = L.length := ⟨_, rfl⟩
      have HC := Lib.hid hcnt
      unfold SincePost at SI
      rw [← hcnt] at SI
      clear hcnt
      go_wp2_with fail
      (with_reducible refine SI.out.mono ?_); rintro e w4 ⟨Ar, cr, rfl, OR, B4⟩
      clear SI
      have L4 := Lib.hid (LiveAt.grow HL.out B4.out)
      have OR4 : Hid (OwnR w4 w.heap.size Ar cr L) := Lib.hid (by
        obtain ⟨vs, h1, h2, h3⟩ := OR.out
        have hs := (LiveAt.below HL.out).size
        exact ⟨vs, h1, Joins.ownsRow_le h2 hs, fun i hi => by
          obtain ⟨r1, Ai, ci, r2, r3⟩ := h3 i hi
          exact ⟨r1, Ai, ci, r2, r3.low hs⟩⟩)
      clear OR B4 HL
      go_upto_if 66 with fail
      go_cut [13] from 65 to 66 (fun fv wx => fv = .int .i64 (d : Int) ∧ wx = w4)
      case first =>
        by_cases hn0 : off < 0
        · have e : (d : Int) = 0 := by have := HD.out; omega
          go_wp2
          go_meet
          exact ⟨by rw [e], rfl⟩
        · have e : off = (d : Int) := by have := HD.out; omega
          subst e
          go_wp2
          go_meet
          exact ⟨rfl, rfl⟩
      case rest =>
        obtain ⟨rfl, rfl⟩ := hcut
        have hw1 : IntKind.i64.wrap ((i : Int) - (d : Int)) = (i : Int) - d := IntWalk.i64_in _ (by omega)
        go_upto_if 72 with fail
        go_cut [14] from 67 to 72 (fun fv wx => fv = .int .i64 (((i - d : Nat)) : Int) ∧ wx = wc)
        case first =>
          by_cases hn0 : (i : Int) - d < 0
          · have e : i - d = 0 := by omega
            go_wp2
            go_meet
            exact ⟨by rw [e]; rfl, rfl⟩
          · have e : (i : Int) - d = ((i - d : Nat) : Int) := by omega
            go_wp2
            go_meet
            exact ⟨rfl, rfl⟩
        case rest =>
          obtain ⟨rfl, rfl⟩ := hcut
          go_upto_if 75 with fail
          go_cut [14] from 73 to 76 (fun fv wx => fv = .int .i64 (cnt : Int) ∧ wx = wc)
          case first =>
            by_cases hn0 : most < ((i - d : Nat) : Int)
            · have E := Lib.hid (show (cnt : Int) = most by have h1 := HC.out; have h2 := LLEN.out; omega)
              go_wp2
              go_meet
              exact ⟨by rw [E.out], rfl⟩
            · have E := Lib.hid (show cnt = i - d by have h1 := HC.out; have h2 := LLEN.out; omega)
              go_wp2
              go_meet
              exact ⟨by rw [E.out], rfl⟩
          case rest =>
            obtain ⟨rfl, rfl⟩ := hcut
            clear hw1
            generalize hrs : recsX 1 [] ps i = rs at *
            have RSL : Hid (rs.length = i) := Lib.hid (by rw [← hrs, recsX_len]; simp)
            have RG : Hid (∀ k, k < i → rs.getD k (0, []) = (Pl.packV 1 (k : Int), ps.getD k [])) := Lib.hid (fun k hk => by
              have := recsX_get (ep := 1) (rs0 := []) (ps := ps) hk
              simp only [List.length_nil, Nat.zero_add] at this
              rw [← hrs]; exact this)
            clear hrs
            go_wp2_with fail
            go_loopg [15] cnt (fun q iv wr => ∃ k : Nat, k ≤ cnt ∧ q = cnt - k ∧ iv = .int .i64 (k : Int) ∧ Hid (LiveAt w wr T Lb 100 rs 0 []) ∧ Hid (OwnR wr w.heap.size Ar cr L))
            case atStart => exact ⟨0, Nat.zero_le _, rfl, rfl, L4, OR4⟩
            case round =>
              obtain ⟨k, hk, hq, rfl, HLk, HOk⟩ := hrel
              subst hq
              by_cases hlt : k < cnt
              · have hkl : k < L.length := by rw [← HC.out]; exact hlt
                obtain ⟨lg1, lg2⟩ := LGET.out k hkl
                have hlt' : (k : Int) < (cnt : Int) := by omega
                have hk0 : 0 ≤ (k : Int) := by omega
                have hil : i ≤ 20 := h20
                obtain ⟨j, hj⟩ : ∃ j, j = d + k := ⟨_, rfl⟩
                rw [← hj] at lg1 lg2
                have hwj : IntKind.i64.wrap ((d : Int) + (k : Int)) = (j : Int) := by rw [IntWalk.i64_in _ (by omega)]; omega
                have GT := Lib.hid (get_live HLk.out j (by rw [RSL.out]; exact lg2))
                rw [RG.out j lg2] at GT
                have hjp : j < ps.length := by rw [← HN.out]; exact lg2
                obtain ⟨b, o, Ai, ci, rfl, hbb, hc0, hby, hat, _⟩ := HM.out.at_ hjp
                have LG := Lib.hid lg1
                generalize Pl.packV 1 (j : Int) = st at *
                generalize ps.getD j [] = p at *
                have hji : (j : Int) < (i : Int) := by omega
                have hj0 : 0 ≤ (j : Int) := by omega
                clear lg1 hkl hj hjp hil lg2
                go_wp2_with fail
                (with_reducible refine GT.out.mono ?_); rintro e w5 ⟨Ag, cg, rfl, OG, B5⟩
                clear GT
                go_upto_region 31 with fail
                obtain ⟨X, hX⟩ : ∃ X, X = w5.heap.size := ⟨_, rfl⟩
                obtain ⟨W6, hW6⟩ : ∃ W6, W6 = w5.alloc (.cells #[.int .u64 st, .slice Ag p.length cg] 40) := ⟨_, rfl⟩
                have BB : Hid (Below wr.heap.size wr W6) := Lib.hid (by rw [hW6]; exact B5.out.alloc B5.out.size _)
                have L6 := Lib.hid (LiveAt.grow HLk.out BB.out)
                have O6 := Lib.hid (OwnR.grew HOk.out BB.out (Nat.le_refl _))
                obtain ⟨x0, x1⟩ : W6.cell? ⟨X, 0, none⟩ = some (.int .u64 st) ∧ W6.cell? ⟨X, 1, none⟩ = some (.slice Ag p.length cg) := by
                  rw [hW6, hX]; exact obj2P (heap_alloc_new w5 _)
                have OG6 : Hid (Bytes W6 W6.heap.size Ag p) := Lib.hid (by
                  rw [hW6]
                  exact (OG.out.bytes.below (one_alloc w5 _)).more (one_alloc w5 _).size)
                rw [← hW6, ← hX]
                clear hW6 hX OG B5
                have BW := Lib.hid (LiveAt.below L6.out)
                have y0 := (BW.out.cell (p := ⟨b, o + j, none⟩) hbb.out).trans hc0
                have OY6 : Hid (Bytes W6 W6.heap.size Ai p) := Lib.hid ((hby.out.below BW.out).more BW.out.size)
                have hkl : k < L.length := by rw [← HC.out]; exact hlt
                obtain ⟨gR, A3, c3, rfl, z0, z1, OZ⟩ := OwnR.row O6.out hkl
                rw [LG.out] at z0 z1 OZ
                dsimp only at z0 z1 OZ
                have OZ6 : Hid (Bytes W6 W6.heap.size A3 p) := Lib.hid OZ.out.bytes
                have v1 : ∀ q, (convert 31 9 (.slice Ag p.length cg)).run Tryz.prog (W6.drewN q) = .ok (.string (strOfNums p)) (W6.drewN q) := fun q => conv_str (w := W6.drewN q) (OG6.out.keep fun _ _ _ => rfl) cg
                have v2 : ∀ q, (convert 31 9 (.slice A3 p.length c3)).run Tryz.prog (W6.drewN q) = .ok (.string (strOfNums p)) (W6.drewN q) := fun q => conv_str (w := W6.drewN q) (OZ6.out.keep fun _ _ _ => rfl) c3
                have v3 : ∀ q, (convert 31 9 (.slice Ai p.length ci)).run Tryz.prog (W6.drewN q) = .ok (.string (strOfNums p)) (W6.drewN q) := fun q => conv_str (w := W6.drewN q) (OY6.out.keep fun _ _ _ => rfl) ci
                generalize strOfNums p = sp at *
                clear hkl hc0 OZ
                go_quiet (fail)
                have L7 := Lib.hid (LiveAt.grow L6.out (below_n (Below.refl _ W6) nq))
                have O7 := Lib.hid (OwnR.grew O6.out (below_n (Below.refl W6.heap.size W6) nq) (Nat.le_refl _))
                have hk30 : (cnt : Int) ≤ 30 := by have h1 := HC.out; have h2 := LLEN.out; omega
                go_wp2
                go_roundg (cnt - (k + 1))
                case measure => omega
                case rel => exact ⟨k + 1, hlt, rfl, by go_num, L7, O7⟩
              · have e : k = cnt := by omega
                have E := Lib.hid e
                have hlt' : ¬ (k : Int) < (cnt : Int) := by omega
                clear e
                go_wp2
                go_ret
                exact ⟨rfl, LiveAt.below HLk.out⟩
set_option maxRecDepth 20000 in
set_option maxHeartbeats 4000000 in
theorem since_off (A0 : Option Addr) (n cap0 : Nat) (off most : Int) (h : 20 < n ∨ most < 0 ∨ 30 < most) (w : World) (hF : Facts w) :
    Calls Tryz.prog 4 #[.slice A0 n cap0, .int .i64 off, .int .i64 most] w (TruePost w) := by
  have AW := Lib.hid (awake_any (w0 := w) (Below.refl _ _) hF)
  clear hF
  have hc : (20 : Int) < (n : Int) ∨ (¬ (20 : Int) < (n : Int) ∧ most < 0) ∨ (¬ (20 : Int) < (n : Int) ∧ ¬ most < 0 ∧ 30 < most) := by omega
  clear h
  rcases hc with hc | ⟨hc, hc2⟩ | ⟨hc, hc2, hc3⟩
  all_goals
    go_enter Tryz.func4, Tryz.ntmps4
    go_wp2_with fail
    (with_reducible refine AW.out.mono ?_); rintro e w1 ⟨rfl, B1⟩
    go_wp2
    go_ret
    exact ⟨rfl, B1.out⟩
theorem since_walk (A0 : Option Addr) (ps : List (List Int)) (cap0 : Nat) (off most : Int) (w : World) (hm : Mat2 w w.heap.size A0 ps) (o0 : -9223372036854775808 ≤ off) (o1 : off ≤ 9223372036854775807) (hF : Facts w) :
    Calls Tryz.prog 4 #[.slice A0 ps.length cap0, .int .i64 off, .int .i64 most] w fun e w' => e = .returned (.bool true) ∧ Below w.heap.size w w' := by
  by_cases h : ps.length ≤ 20 ∧ 0 ≤ most ∧ most ≤ 30
  · exact since_core A0 ps cap0 off most h.1 h.2.1 h.2.2 o0 o1 w hm hF
  · exact since_off A0 _ cap0 off most (by omega) w hF
end Go.Proofs.YtdbhicifjljjnaaGreatDoor
