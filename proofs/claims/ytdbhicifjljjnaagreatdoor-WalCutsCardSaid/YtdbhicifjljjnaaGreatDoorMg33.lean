/-
  Part 33 of the texts behind the law: WalSinceW, WalCutP, WalCutQ, WalCutL, WalCutsW.
-/
import Derived.Test.YtdbhicifjljjnaaGreatDoorMg32
import Derived.Test.YtdbhicifjljjnaaGreatDoorMg28
/-
  The law WalSince: Since and Get return the appended records.
-/
namespace Go.Proofs.YtdbhicifjljjnaaGreatDoor
open Go.RowKit St
def TruePost (w0 : World) (e : Ending) (w' : World) : Prop := e = .returned (.bool true) ∧ Below w0.heap.size w0 w'
set_option maxRecDepth 20000 in
set_option maxHeartbeats 8000000 in
theorem since_core (A0 : Option Addr) (ps : List (List Int)) (cap0 : Nat) (off most : Int) (h20 : ps.length ≤ 20) (m0 : 0 ≤ most) (m1 : most ≤ 30) (o0 : -9223372036854775808 ≤ off) (o1 : off ≤ 9223372036854775807) (w : World) (hm : Mat2 w w.heap.size A0 ps) (hF : Facts w) :
    Calls Tryz.prog 4 #[.slice A0 ps.length cap0, .int .i64 off, .int .i64 most] w (TruePost w) := by
  have HM := Lib.hid hm
  have HF := Lib.hid hF
  have AW := Lib.hid (awake_any (w0 := w) (Below.refl _ _) hF)
  obtain ⟨n, hn⟩ : ∃ n, n = ps.length := ⟨_, rfl⟩
  rw [← hn] at h20 ⊢
  have HN := Lib.hid hn
  have h20' : (n : Int) ≤ 20 := by omega
  clear hm hF hn
  go_enter Tryz.func4, Tryz.ntmps4
  go_wp2_with fail
  (with_reducible refine AW.out.mono ?_); rintro e w1 ⟨rfl, B1⟩
  clear AW
  have BG := Lib.hid (begun_any B1.out HF.out 100 (by decide) (by decide))
  have c1 : ¬ (20 : Int) < (n : Int) := by omega
  have c2 : ¬ most < 0 := by omega
  have c3 : ¬ (30 : Int) < most := by omega
  go_wp2_with fail
  (with_reducible refine BG.out.mono ?_); rintro e w2 ⟨Lb, T, rfl, H2⟩
  clear BG B1 c1 c2 c3
  have L2 : Hid (LiveAt w w2 T Lb 100 (recsX 1 [] ps 0) 0 []) := Lib.hid (by obtain ⟨sa, sc, ra, rc, h⟩ := H2.out; rw [recsX_zero]; exact LiveAt.of h)
  clear H2
  go_wp2_with fail
  go_loopg [9] n (fun q iv wr => ∃ i : Nat, i ≤ n ∧ q = n - i ∧ iv = .int .i64 (i : Int) ∧ Hid (LiveAt w wr T Lb 100 (recsX 1 [] ps i) 0 []))
  case atStart => exact ⟨0, Nat.zero_le _, rfl, rfl, L2⟩
  case round =>
    obtain ⟨i, hi, hq, rfl, HL⟩ := hrel
    subst hq
    by_cases hlt : i < n
    · have hlp : i < ps.length := by rw [← HN.out]; exact hlt
      have hlt' : (i : Int) < (n : Int) := by omega
      have hi0 : 0 ≤ (i : Int) := by omega
      obtain ⟨b, o, Ai, ci, rfl, hbb, hc0, hby, hat, _⟩ := HM.out.at_ hlp
      have hc := ((LiveAt.below HL.out).cell (p := ⟨b, o + i, none⟩) hbb.out).trans hc0
      clear hc0
      have RS := Lib.hid (recsX_succ 1 [] ps i)
      generalize hp : ps.getD i [] = p at *
      obtain ⟨pn, hpn⟩ : ∃ pn, pn = p.length := ⟨_, rfl⟩
      rw [← hpn] at hc
      have HPN := Lib.hid hpn
      clear hp hpn
      by_cases h100 : 100 < pn
      · have h100' : (100 : Int) < (pn : Int) := by omega
        go_wp2
        go_ret
        exact ⟨rfl, LiveAt.below HL.out⟩
      · have h100' : ¬ (100 : Int) < (pn : Int) := by omega
        have AP := Lib.hid (append_live HL.out HF.out 1 (by decide) (by decide) (recsX_ep ps i (by decide) (by decide) (by decide) (by simp; omega)) Ai pn ci p HPN.out (by omega) (by rw [recsX_len]; simp; omega) (by have := hat.out; rw [← HPN.out]; rw [← HPN.out] at this; exact this)
          (fun W s l G' sa sc ra rc hW => (hby.out.below (WRun.below hW)).more (WRun.below hW).size))
        go_wp2_with fail
        (with_reducible refine AP.out.mono ?_); rintro e w3 ⟨rfl, L3⟩
        rw [← RS.out] at L3
        go_wp2
        go_roundg (n - (i + 1))
        case measure => omega
        case rel => exact ⟨i + 1, hlt, rfl, by go_num, L3⟩
    · have e : i = n := by omega
      subst e
      clear hlt hi L2
      have SI := Lib.hid (since_live HL.out off most o0 o1 (by omega) (by omega))
      obtain ⟨d, hd⟩ : ∃ d, d = (max off 0).toNat := ⟨_, rfl⟩
      rw [← hd] at SI
      obtain ⟨L, hL⟩ : ∃ L, L = ((recsX 1 [] ps i).drop d).take most.toNat := ⟨_, rfl⟩
      rw [← hL] at SI
      have LLEN : Hid (L.length = min (i - d) most.toNat) := Lib.hid (by rw [hL, List.length_take, List.length_drop, recsX_len]; simp; omega)
      have LGET : Hid (∀ k, k < L.length → L.getD k (0, []) = (Pl.packV 1 ((d + k : Nat) : Int), ps.getD (d + k) []) ∧ d + k < i) := Lib.hid (fun k hk => by
        have hk2 := hk
        rw [LLEN.out] at hk2
        refine ⟨?_, by omega⟩
        have := recsX_get (ep := 1) (rs0 := []) (ps := ps) (i := i) (k := d + k) (by omega)
        simp only [List.length_nil, Nat.zero_add] at this
        rw [← this, hL, List.getD_eq_getElem?_getD, List.getElem?_take_of_lt (by omega), List.getElem?_drop, ← List.getD_eq_getElem?_getD])
      have hdm : max off 0 = (d : Int) := by omega
      have HD := Lib.hid hdm
      have hdb : (d : Int) ≤ 9223372036854775807 := by omega
      clear hd hL hdm
      obtain ⟨cnt, hcnt⟩ : ∃ cnt, cnt = L.length := ⟨_, rfl⟩
      have HC := Lib.hid hcnt
      unfold SincePost at SI
      rw [← hcnt] at SI
      clear hcnt
      go_wp2_with fail
      (with_reducible refine SI.out.mono ?_); rintro e w4 ⟨Ar, cr, rfl, OR, B4⟩
      clear SI
      have L4 := Lib.hid (LiveAt.grow HL.out B4.out)
      have OR4 : Hid (OwnR w4 w.heap.size Ar cr L) := Lib.hid (by
        obtain ⟨vs, h1, h2, h3⟩ := OR.out
        have hs := (LiveAt.below HL.out).size
        exact ⟨vs, h1, Joins.ownsRow_le h2 hs, fun i hi => by
          obtain ⟨r1, Ai, ci, r2, r3⟩ := h3 i hi
          exact ⟨r1, Ai, ci, r2, r3.low hs⟩⟩)
      clear OR B4 HL
      go_upto_if 66 with fail
      go_cut [13] from 65 to 66 (fun fv wx => fv = .int .i64 (d : Int) ∧ wx = w4)
      case first =>
        by_cases hn0 : off < 0
        · have e : (d : Int) = 0 := by have := HD.out; omega
          go_wp2
          go_meet
          exact ⟨by rw [e], rfl⟩
        · have e : off = (d : Int) := by have := HD.out; omega
          subst e
          go_wp2
          go_meet
          exact ⟨rfl, rfl⟩
      case rest =>
        obtain ⟨rfl, rfl⟩ := hcut
        have hw1 : IntKind.i64.wrap ((i : Int) - (d : Int)) = (i : Int) - d := IntWalk.i64_in _ (by omega)
        go_upto_if 72 with fail
        go_cut [14] from 67 to 72 (fun fv wx => fv = .int .i64 (((i - d : Nat)) : Int) ∧ wx = wc)
        case first =>
          by_cases hn0 : (i : Int) - d < 0
          · have e : i - d = 0 := by omega
            go_wp2
            go_meet
            exact ⟨by rw [e]; rfl, rfl⟩
          · have e : (i : Int) - d = ((i - d : Nat) : Int) := by omega
            go_wp2
            go_meet
            exact ⟨rfl, rfl⟩
        case rest =>
          obtain ⟨rfl, rfl⟩ := hcut
          go_upto_if 75 with fail
          go_cut [14] from 73 to 76 (fun fv wx => fv = .int .i64 (cnt : Int) ∧ wx = wc)
          case first =>
            by_cases hn0 : most < ((i - d : Nat) : Int)
            · have E := Lib.hid (show (cnt : Int) = most by have h1 := HC.out; have h2 := LLEN.out; omega)
              go_wp2
              go_meet
              exact ⟨by rw [E.out], rfl⟩
            · have E := Lib.hid (show cnt = i - d by have h1 := HC.out; have h2 := LLEN.out; omega)
              go_wp2
              go_meet
              exact ⟨by rw [E.out], rfl⟩
          case rest =>
            obtain ⟨rfl, rfl⟩ := hcut
            clear hw1
            generalize hrs : recsX 1 [] ps i = rs at *
            have RSL : Hid (rs.length = i) := Lib.hid (by rw [← hrs, recsX_len]; simp)
            have RG : Hid (∀ k, k < i → rs.getD k (0, []) = (Pl.packV 1 (k : Int), ps.getD k [])) := Lib.hid (fun k hk => by
              have := recsX_get (ep := 1) (rs0 := []) (ps := ps) hk
              simp only [List.length_nil, Nat.zero_add] at this
              rw [← hrs]; exact this)
            clear hrs
            go_wp2_with fail
            go_loopg [15] cnt (fun q iv wr => ∃ k : Nat, k ≤ cnt ∧ q = cnt - k ∧ iv = .int .i64 (k : Int) ∧ Hid (LiveAt w wr T Lb 100 rs 0 []) ∧ Hid (OwnR wr w.heap.size Ar cr L))
            case atStart => exact ⟨0, Nat.zero_le _, rfl, rfl, L4, OR4⟩
            case round =>
              obtain ⟨k, hk, hq, rfl, HLk, HOk⟩ := hrel
              subst hq
              by_cases hlt : k < cnt
              · have hkl : k < L.length := by rw [← HC.out]; exact hlt
                obtain ⟨lg1, lg2⟩ := LGET.out k hkl
                have hlt' : (k : Int) < (cnt : Int) := by omega
                have hk0 : 0 ≤ (k : Int) := by omega
                have hil : i ≤ 20 := h20
                obtain ⟨j, hj⟩ : ∃ j, j = d + k := ⟨_, rfl⟩
                rw [← hj] at lg1 lg2
                have hwj : IntKind.i64.wrap ((d : Int) + (k : Int)) = (j : Int) := by rw [IntWalk.i64_in _ (by omega)]; omega
                have GT := Lib.hid (get_live HLk.out j (by rw [RSL.out]; exact lg2))
                rw [RG.out j lg2] at GT
                have hjp : j < ps.length := by rw [← HN.out]; exact lg2
                obtain ⟨b, o, Ai, ci, rfl, hbb, hc0, hby, hat, _⟩ := HM.out.at_ hjp
                have LG := Lib.hid lg1
                generalize Pl.packV 1 (j : Int) = st at *
                generalize ps.getD j [] = p at *
                have hji : (j : Int) < (i : Int) := by omega
                have hj0 : 0 ≤ (j : Int) := by omega
                clear lg1 hkl hj hjp hil lg2
                go_wp2_with fail
                (with_reducible refine GT.out.mono ?_); rintro e w5 ⟨Ag, cg, rfl, OG, B5⟩
                clear GT
                go_upto_region 31 with fail
                obtain ⟨X, hX⟩ : ∃ X, X = w5.heap.size := ⟨_, rfl⟩
                obtain ⟨W6, hW6⟩ : ∃ W6, W6 = w5.alloc (.cells #[.int .u64 st, .slice Ag p.length cg] 40) := ⟨_, rfl⟩
                have BB : Hid (Below wr.heap.size wr W6) := Lib.hid (by rw [hW6]; exact B5.out.alloc B5.out.size _)
                have L6 := Lib.hid (LiveAt.grow HLk.out BB.out)
                have O6 := Lib.hid (OwnR.grew HOk.out BB.out (Nat.le_refl _))
                obtain ⟨x0, x1⟩ : W6.cell? ⟨X, 0, none⟩ = some (.int .u64 st) ∧ W6.cell? ⟨X, 1, none⟩ = some (.slice Ag p.length cg) := by
                  rw [hW6, hX]; exact obj2P (heap_alloc_new w5 _)
                have OG6 : Hid (Bytes W6 W6.heap.size Ag p) := Lib.hid (by
                  rw [hW6]
                  exact (OG.out.bytes.below (one_alloc w5 _)).more (one_alloc w5 _).size)
                rw [← hW6, ← hX]
                clear hW6 hX OG B5
                have BW := Lib.hid (LiveAt.below L6.out)
                have y0 := (BW.out.cell (p := ⟨b, o + j, none⟩) hbb.out).trans hc0
                have OY6 : Hid (Bytes W6 W6.heap.size Ai p) := Lib.hid ((hby.out.below BW.out).more BW.out.size)
                have hkl : k < L.length := by rw [← HC.out]; exact hlt
                obtain ⟨gR, A3, c3, rfl, z0, z1, OZ⟩ := OwnR.row O6.out hkl
                rw [LG.out] at z0 z1 OZ
                dsimp only at z0 z1 OZ
                have OZ6 : Hid (Bytes W6 W6.heap.size A3 p) := Lib.hid OZ.out.bytes
                have v1 : ∀ q, (convert 31 9 (.slice Ag p.length cg)).run Tryz.prog (W6.drewN q) = .ok (.string (strOfNums p)) (W6.drewN q) := fun q => conv_str (w := W6.drewN q) (OG6.out.keep fun _ _ _ => rfl) cg
                have v2 : ∀ q, (convert 31 9 (.slice A3 p.length c3)).run Tryz.prog (W6.drewN q) = .ok (.string (strOfNums p)) (W6.drewN q) := fun q => conv_str (w := W6.drewN q) (OZ6.out.keep fun _ _ _ => rfl) c3
                have v3 : ∀ q, (convert 31 9 (.slice Ai p.length ci)).run Tryz.prog (W6.drewN q) = .ok (.string (strOfNums p)) (W6.drewN q) := fun q => conv_str (w := W6.drewN q) (OY6.out.keep fun _ _ _ => rfl) ci
                generalize strOfNums p = sp at *
                clear hkl hc0 OZ
                go_quiet (fail)
                have L7 := Lib.hid (LiveAt.grow L6.out (below_n (Below.refl _ W6) nq))
                have O7 := Lib.hid (OwnR.grew O6.out (below_n (Below.refl W6.heap.size W6) nq) (Nat.le_refl _))
                have hk30 : (cnt : Int) ≤ 30 := by have h1 := HC.out; have h2 := LLEN.out; omega
                go_wp2
                go_roundg (cnt - (k + 1))
                case measure => omega
                case rel => exact ⟨k + 1, hlt, rfl, by go_num, L7, O7⟩
              · have e : k = cnt := by omega
                have E := Lib.hid e
                have hlt' : ¬ (k : Int) < (cnt : Int) := by omega
                clear e
                go_wp2
                go_ret
                exact ⟨rfl, LiveAt.below HLk.out⟩
set_option maxRecDepth 20000 in
set_option maxHeartbeats 4000000 in
theorem since_off (A0 : Option Addr) (n cap0 : Nat) (off most : Int) (h : 20 < n ∨ most < 0 ∨ 30 < most) (w : World) (hF : Facts w) :
    Calls Tryz.prog 4 #[.slice A0 n cap0, .int .i64 off, .int .i64 most] w (TruePost w) := by
  have AW := Lib.hid (awake_any (w0 := w) (Below.refl _ _) hF)
  clear hF
  have hc : (20 : Int) < (n : Int) ∨ (¬ (20 : Int) < (n : Int) ∧ most < 0) ∨ (¬ (20 : Int) < (n : Int) ∧ ¬ most < 0 ∧ 30 < most) := by omega
  clear h
  rcases hc with hc | ⟨hc, hc2⟩ | ⟨hc, hc2, hc3⟩
  all_goals
    go_enter Tryz.func4, Tryz.ntmps4
    go_wp2_with fail
    (with_reducible refine AW.out.mono ?_); rintro e w1 ⟨rfl, B1⟩
    go_wp2
    go_ret
    exact ⟨rfl, B1.out⟩
theorem since_walk (A0 : Option Addr) (ps : List (List Int)) (cap0 : Nat) (off most : Int) (w : World) (hm : Mat2 w w.heap.size A0 ps) (o0 : -9223372036854775808 ≤ off) (o1 : off ≤ 9223372036854775807) (hF : Facts w) :
    Calls Tryz.prog 4 #[.slice A0 ps.length cap0, .int .i64 off, .int .i64 most] w fun e w' => e = .returned (.bool true) ∧ Below w.heap.size w w' := by
  by_cases h : ps.length ≤ 20 ∧ 0 ≤ most ∧ most ≤ 30
  · exact since_core A0 ps cap0 off most h.1 h.2.1 h.2.2 o0 o1 w hm hF
  · exact since_off A0 _ cap0 off most (by omega) w hF
end Go.Proofs.YtdbhicifjljjnaaGreatDoor
/-
  The plain side of Cut: what of the parts stays, with and without a fuse.
-/
namespace Go.Proofs.YtdbhicifjljjnaaGreatDoor
open Go.RowKit St
def partD : Part := ([], 0)
theorem part_take {P : List Part} {n : Nat} (h : n < P.length) : P.take (n + 1) = P.take n ++ [P.getD n partD] := by
  rw [List.take_add_one, List.getElem?_eq_getElem h, List.getD_eq_getElem?_getD, List.getElem?_eq_getElem h]; rfl
theorem segsV_get : ∀ (P : List Part) (f : Int) (i : Nat), i < P.length → (segsV f P).getD i (0, 0) = (f + (cntP (P.take i) : Nat), ((codeV (P.getD i partD).1).length : Int))
  | [], _, _, h => by simp at h
  | p :: r, f, 0, _ => by simp [segsV, cntP]
  | p :: r, f, i + 1, h => by
    have ih := segsV_get r (f + p.1.length) i (by simpa using h)
    have e1 : (segsV f (p :: r)).getD (i + 1) (0, 0) = (segsV (f + p.1.length) r).getD i (0, 0) := by
      show ((f, _) :: segsV (f + p.1.length) r).getD (i + 1) (0, 0) = _
      rw [List.getD_cons_succ]
    rw [e1, ih]
    have e2 : cntP ((p :: r).take (i + 1)) = p.1.length + cntP (r.take i) := by rw [List.take_succ_cons]; rfl
    rw [e2, List.getD_cons_succ]
    have : f + (p.1.length : Int) + (cntP (r.take i) : Nat) = f + ((p.1.length + cntP (r.take i) : Nat) : Int) := by omega
    rw [this]
theorem sorted_del_last {P : List Part} {p : Part} {s : S} (hf : s.fs = filesV 0 (P ++ [p])) (hs : Sorted s.fs) : del (nmS (cntP P : Nat)) s.fs = filesV 0 P ∧ find (nmS (cntP P : Nat)) s.fs = some ⟨nmS (cntP P : Nat), codeV p.1, p.2⟩ := by
  have e : s.fs = filesV 0 P ++ ⟨nmS (cntP P : Nat), codeV p.1, p.2⟩ :: [] := by rw [hf, filesV_snoc, Int.zero_add]
  rw [e] at hs ⊢
  refine ⟨?_, find_mem (f := ⟨nmS (cntP P : Nat), codeV p.1, p.2⟩) hs (by simp)⟩
  have := del_mid (f := ⟨nmS (cntP P : Nat), codeV p.1, p.2⟩) hs
  rwa [List.append_nil] at this
theorem fnd_ok {s : S} {f : Int} {x : F} (ho : s.off = false) (h : find (nmS f) s.fs = some x) : fnd s (nmS f) [nmS f] = 0 := by
  have hc : chk s [nmS f] = 0 := by
    unfold chk
    rw [ho]
    have := good_name f
    simp [nmS, this]
  unfold fnd
  rw [if_neg (by rw [hc]; simp), h]; rfl
theorem act_go {s : S} (l : List F) (hf : s.fuse ≠ 1) : actE s 0 = 0 ∧ actS s 0 l = { s with fs := l, fuse := s.fuse - 1 } := by
  unfold actE St.actS
  simp [hf]
theorem act_blow {s : S} (l : List F) (hf : s.fuse = 1) : actE s 0 = 11 ∧ actS s 0 l = crash { s with fuse := 0 } s.keep := by
  unfold actE St.actS
  simp [hf]
theorem drop_last {P : List Part} {p : Part} {s : S} (hf : s.fs = filesV 0 (P ++ [p])) (hs : Sorted s.fs) (ho : s.off = false) :
    (s.fuse ≠ 1 → dropE1 (cntP P : Nat) s = 0 ∧ dropS1 (cntP P : Nat) s = { s with fs := filesV 0 P, fuse := s.fuse - 1 }) ∧ (s.fuse = 1 → dropE1 (cntP P : Nat) s = 11 ∧ dropS1 (cntP P : Nat) s = crash { s with fuse := 0 } s.keep) := by
  obtain ⟨h1, h2⟩ := sorted_del_last hf hs
  have h3 := fnd_ok ho h2
  unfold dropE1 dropS1
  rw [h3, h1]
  exact ⟨fun h => act_go _ h, fun h => act_blow _ h⟩
/-- What the loop of Cut leaves. -/
def DropOk (P0 : List Part) (off : Int) (n : Nat) (s : S) (d : Nat × S × Int) : Prop :=
  0 < d.1 ∧ d.1 ≤ n ∧ (∀ i, d.1 ≤ i → i < n → off ≤ (cntP (P0.take i) : Nat)) ∧
  ((d.2.2 = 0 ∧ ((cntP (P0.take (d.1 - 1)) : Nat) : Int) ≤ max off 0 ∧ d.2.1 = { s with fs := filesV 0 (P0.take d.1), fuse := s.fuse - (n - d.1) } ∧ (s.fuse = 0 ∨ n - d.1 < s.fuse)) ∨
   (d.2.2 = 11 ∧ s.fuse ≠ 0 ∧ d.2.1 = crash { s with fs := filesV 0 (P0.take d.1), fuse := 0 } s.keep))
theorem dropC_fit {l : Wl.L} {P0 : List Part} {off : Int} (hl : l.segs = segsV 0 P0) : ∀ (n : Nat) (s : S), 0 < n → n ≤ P0.length → s.fs = filesV 0 (P0.take n) → Sorted s.fs → s.off = false → DropOk P0 off n s (dropC l off n s)
  | 0, _, h, _, _, _, _ => by omega
  | 1, s, _, hn, hf, hs, ho => by
    refine ⟨Nat.one_pos, Nat.le_refl _, fun i h1 h2 => by have : (dropC l off 1 s).1 = 1 := rfl; omega, .inl ⟨rfl, ?_, ?_, by show s.fuse = 0 ∨ 1 - 1 < s.fuse; omega⟩⟩
    · show ((cntP (P0.take (1 - 1)) : Nat) : Int) ≤ _
      simp [cntP]
      omega
    · show s = { s with fs := filesV 0 (P0.take 1), fuse := s.fuse - (1 - 1) }
      rw [← hf, Nat.sub_self]; rfl
  | n + 2, s, _, hn, hf, hs, ho => by
    have hg : (segI l (n + 1)).1 = (cntP (P0.take (n + 1)) : Nat) := by
      unfold segI
      rw [hl, segsV_get P0 0 (n + 1) (by omega)]
      show 0 + _ = _
      omega
    have hd : dropC l off (n + 2) s = if off ≤ (segI l (n + 1)).1 then
        (if dropE1 (segI l (n + 1)).1 s ≠ 0 then (n + 2, dropS1 (segI l (n + 1)).1 s, dropE1 (segI l (n + 1)).1 s) else dropC l off (n + 1) (dropS1 (segI l (n + 1)).1 s))
      else (n + 2, s, 0) := by rw [dropC]
    rw [hd, hg]
    have hf2 : s.fs = filesV 0 (P0.take (n + 1) ++ [P0.getD (n + 1) partD]) := by rw [hf, part_take (by omega)]
    obtain ⟨k1, k2⟩ := drop_last hf2 hs ho
    by_cases hle : off ≤ (cntP (P0.take (n + 1)) : Nat)
    · rw [if_pos hle]
      by_cases hz : s.fuse = 1
      · obtain ⟨e1, e2⟩ := k2 hz
        rw [if_pos (by rw [e1]; decide), e1, e2]
        refine ⟨by simp, Nat.le_refl _, fun i h1 h2 => by have h3 : n + 2 ≤ i := h1; omega, .inr ⟨rfl, by omega, ?_⟩⟩
        show crash { s with fuse := 0 } s.keep = crash { s with fs := filesV 0 (P0.take (n + 2)), fuse := 0 } s.keep
        rw [← hf]
      · obtain ⟨e1, e2⟩ := k1 hz
        rw [if_neg (by rw [e1]; simp), e2]
        have hs2 : Sorted (filesV 0 (P0.take (n + 1))) := by
          have := hf2
          rw [this, filesV_snoc] at hs
          exact (sorted_app hs).1
        obtain ⟨i1, i2, i3, i4⟩ := dropC_fit (off := off) hl (n + 1) { s with fs := filesV 0 (P0.take (n + 1)), fuse := s.fuse - 1 } (by omega) (by omega) rfl hs2 ho
        generalize dropC l off (n + 1) { s with fs := filesV 0 (P0.take (n + 1)), fuse := s.fuse - 1 } = d at *
        refine ⟨i1, by omega, fun i h1 h2 => ?_, ?_⟩
        · by_cases he : i = n + 1
          · subst he; exact hle
          · exact i3 i h1 (by omega)
        · rcases i4 with ⟨a1, a2, a3, a4⟩ | ⟨a1, a2, a3⟩
          · refine .inl ⟨a1, a2, ?_, ?_⟩
            · rw [a3]
              have : s.fuse - 1 - (n + 1 - d.1) = s.fuse - (n + 2 - d.1) := by omega
              show ({ s with fs := filesV 0 (P0.take d.1), fuse := s.fuse - 1 - (n + 1 - d.1) } : S) = _
              rw [this]
            · have a4 : s.fuse - 1 = 0 ∨ n + 1 - d.1 < s.fuse - 1 := a4
              omega
          · have a2 : s.fuse - 1 ≠ 0 := a2
            exact .inr ⟨a1, by omega, a3⟩
    · rw [if_neg hle]
      refine ⟨by simp, Nat.le_refl _, fun i h1 h2 => by have h3 : n + 2 ≤ i := h1; omega, .inl ⟨rfl, ?_, ?_, by show s.fuse = 0 ∨ n + 2 - (n + 2) < s.fuse; omega⟩⟩
      · show ((cntP (P0.take (n + 1)) : Nat) : Int) ≤ _
        omega
      · show s = { s with fs := filesV 0 (P0.take (n + 2)), fuse := s.fuse - (n + 2 - (n + 2)) }
        rw [← hf, Nat.sub_self]; rfl
end Go.Proofs.YtdbhicifjljjnaaGreatDoor
/-
  The plain side of Cut, put together: the records ahead of the offset stay, and nothing else.
-/
namespace Go.Proofs.YtdbhicifjljjnaaGreatDoor
open Go.RowKit St
theorem codeV_app (a b : List Fr.Rc) : codeV (a ++ b) = codeV a ++ codeV b := by unfold codeV; simp
theorem sizeV_code : ∀ (rs : List Fr.Rc), sizeV rs = (codeV rs).length
  | [] => rfl
  | r :: t => by
    have e : codeV (r :: t) = Fr.putV r.1 r.2 ++ codeV t := rfl
    rw [e, List.length_append, Fr.putV_len, ← sizeV_code t]; rfl
theorem sizeV_sub (rs : List Fr.Rc) (a z : Nat) : sizeV ((rs.take z).drop a) ≤ sizeV rs := by
  have h1 : sizeV rs = sizeV (rs.take z) + sizeV (rs.drop z) := by rw [← sizeV_app, List.take_append_drop]
  have h2 : sizeV (rs.take z) = sizeV ((rs.take z).take a) + sizeV ((rs.take z).drop a) := by rw [← sizeV_app, List.take_append_drop]
  omega
theorem codeV_take (rs : List Fr.Rc) (k : Nat) : (codeV rs).take (codeV (rs.take k)).length = codeV (rs.take k) := by
  have e : codeV rs = codeV (rs.take k) ++ codeV (rs.drop k) := by rw [← codeV_app, List.take_append_drop]
  rw [e, List.take_append_of_le_length (Nat.le_refl _), List.take_length]
/-- The parts that stay ahead of offset off, when part i is the last. -/
def cutP (P0 : List Part) (i : Nat) (off : Int) : List Part := P0.take i ++ [((P0.getD i partD).1.take (off - cntP (P0.take i)).toNat, min (P0.getD i partD).2 (codeV ((P0.getD i partD).1.take (off - cntP (P0.take i)).toNat)).length)]
theorem part_split {P0 : List Part} {i : Nat} (h : i < P0.length) : P0 = P0.take i ++ P0.getD i partD :: P0.drop (i + 1) := by
  rw [List.getD_eq_getElem?_getD, List.getElem?_eq_getElem h]
  exact (by simp : P0.take i ++ P0[i] :: P0.drop (i + 1) = P0).symm
theorem cut_recs_eq {P0 : List Part} {i : Nat} {off : Int} (h : i < P0.length) (h1 : ((cntP (P0.take i) : Nat) : Int) ≤ off) (h2 : off ≤ (cntP (P0.take i) + (P0.getD i partD).1.length : Nat)) :
    recsP (cutP P0 i off) = (recsP P0).take off.toNat := by
  have e := part_split h
  have er : recsP P0 = recsP (P0.take i) ++ ((P0.getD i partD).1 ++ recsP (P0.drop (i + 1))) := by
    conv => lhs; rw [e]
    rw [recsP_app]; rfl
  unfold cutP
  rw [er, recsP_app]
  have hl : (recsP (P0.take i)).length = cntP (P0.take i) := recsP_len _
  rw [List.take_append, hl, List.take_of_length_le (l := recsP (P0.take i)) (by rw [hl]; omega), List.take_append]
  have hk : off.toNat - cntP (P0.take i) = (off - cntP (P0.take i)).toNat := by omega
  have h0 : off.toNat - cntP (P0.take i) - (P0.getD i partD).1.length = 0 := by omega
  rw [h0, List.take_zero, List.append_nil, hk]
  simp [recsP]
section
variable {s : S} {l : Wl.L} {P0 : List Part} {off : Int}
theorem fit_first (F : Fit s l 0 P0) : Wl.firstV l = 0 := by
  unfold Wl.firstV
  rw [F.segs]
  cases P0 <;> rfl
theorem fit_end (F : Fit s l 0 P0) : Wl.endV l = (cntP P0 : Nat) := by
  unfold Wl.endV
  rw [fit_first F, F.recs, cnt_flat]
  omega
theorem fit_seg (F : Fit s l 0 P0) {i : Nat} (h : i < P0.length) : segI l i = (((cntP (P0.take i) : Nat) : Int), ((codeV (P0.getD i partD).1).length : Int)) := by
  unfold segI
  rw [F.segs, segsV_get P0 0 i h, Int.zero_add]
theorem fit_shN (F : Fit s l 0 P0) (hi : St.Inv s) (i : Nat) : shN l i off ≤ 16777216 := by
  have h1 : shN l i off ≤ sizeV l.recs := sizeV_sub _ _ _
  have h2 : sizeV l.recs = total s.fs := by rw [sizeV_code, F.recs, F.fs, total_files]
  have := hi.tot
  have := hi.room
  omega
theorem fit_shR (F : Fit s l 0 P0) {i : Nat} (h : i < P0.length) (h1 : ((cntP (P0.take i) : Nat) : Int) ≤ off) (h2 : off ≤ (cntP (P0.take i) + (P0.getD i partD).1.length : Nat)) :
    shR l i off = (P0.getD i partD).1.take (off - cntP (P0.take i)).toNat := by
  have er : l.recs = recsP P0 := F.recs
  have ea : shA l i = cntP (P0.take i) := by unfold shA; rw [fit_first F, fit_seg F h]; simp
  have ez : shZ l off = off.toNat := by unfold shZ; rw [fit_first F]; simp
  unfold shR
  rw [ea, ez, er, ← cut_recs_eq h h1 h2]
  unfold cutP
  rw [recsP_app]
  have hl : (recsP (P0.take i)).length = cntP (P0.take i) := recsP_len _
  rw [List.drop_append, hl, List.drop_of_length_le (l := recsP (P0.take i)) (by rw [hl]; exact Nat.le_refl _)]
  simp [recsP]
/-- shorten on the last of the parts that stay. -/
theorem short_fit (F : Fit s l 0 P0) {i : Nat} (h : i < P0.length) (h1 : ((cntP (P0.take i) : Nat) : Int) ≤ off) (h2 : off ≤ (cntP (P0.take i) + (P0.getD i partD).1.length : Nat))
    (s1 : S) (hf : s1.fs = filesV 0 (P0.take (i + 1))) (hi1 : St.Inv s1) (ho : s1.off = false) :
    (shE s1 l i off = 0 ∧ ∃ j, shS s1 l i off = { s1 with fs := filesV 0 (cutP P0 i off), fuse := s1.fuse - j } ∧ (s1.fuse = 0 ∨ j < s1.fuse)) ∨ (shE s1 l i off = 11 ∧ s1.fuse ≠ 0 ∧ shS s1 l i off = crash { s1 with fuse := 0 } s1.keep) := by
  have hN : shN l i off = (codeV ((P0.getD i partD).1.take (off - cntP (P0.take i)).toNat)).length := by unfold shN; rw [fit_shR F h h1 h2, sizeV_code]
  have hsg := fit_seg F h
  have hf2 : s1.fs = filesV 0 (P0.take i ++ [P0.getD i partD]) := by rw [hf, part_take h]
  have hfc : filesV 0 (cutP P0 i off) = filesV 0 (P0.take i) ++ [⟨nmS (cntP (P0.take i) : Nat), codeV ((P0.getD i partD).1.take (off - cntP (P0.take i)).toNat), min (P0.getD i partD).2 (codeV ((P0.getD i partD).1.take (off - cntP (P0.take i)).toNat)).length⟩] := by
    unfold cutP
    rw [filesV_snoc, Int.zero_add]
  have hf3 : s1.fs = filesV 0 (P0.take i) ++ [⟨nmS (cntP (P0.take i) : Nat), codeV (P0.getD i partD).1, (P0.getD i partD).2⟩] := by rw [hf2, filesV_snoc, Int.zero_add]
  have hct := codeV_take (P0.getD i partD).1 (off - cntP (P0.take i)).toNat
  unfold shE shS
  rw [hsg, hN]
  simp only
  generalize (P0.getD i partD).1.take (off - cntP (P0.take i)).toNat = tk at *
  generalize P0.getD i partD = p at *
  generalize P0.take i = A at *
  by_cases hz : ((codeV tk).length : Int) = ((codeV p.1).length : Int)
  · rw [if_pos hz, if_pos hz]
    have hz' : (codeV tk).length = (codeV p.1).length := by omega
    have hc : codeV tk = codeV p.1 := by rw [← hct, hz', List.take_length]
    refine .inl ⟨rfl, 0, ?_, by omega⟩
    have hsu : p.2 ≤ (codeV p.1).length := hi1.sure ⟨nmS (cntP A : Nat), codeV p.1, p.2⟩ (by rw [hf3]; simp)
    have e : filesV 0 (cutP P0 i off) = s1.fs := by rw [hfc, hf3, hc, Nat.min_eq_left hsu]
    rw [e, Nat.sub_zero]
  · rw [if_neg hz, if_neg hz]
    have hle : (codeV tk).length ≤ (codeV p.1).length := by
      have := congrArg List.length hct
      rw [List.length_take] at this
      omega
    obtain ⟨_, hfd⟩ := sorted_del_last hf2 hi1.sorted
    have hfn := fnd_ok ho hfd
    have hE : cutE s1 (nmS (cntP A : Nat)) ((codeV tk).length : Nat) = 0 := by
      unfold cutE
      rw [hfn, if_neg (by simp), (file_mem hfd).1, if_neg]
      show ¬ (((codeV tk).length : Int) < 0 ∨ ((codeV p.1).length : Int) < ((codeV tk).length : Int))
      omega
    have hL : cutL s1 (nmS (cntP A : Nat)) (codeV tk).length = filesV 0 (cutP P0 i off) := by
      unfold cutL
      rw [(file_mem hfd).1, hfc]
      show put ⟨nmS (cntP A : Nat), (codeV p.1).take (codeV tk).length, min p.2 (codeV tk).length⟩ s1.fs = _
      rw [hct]
      have hso := hi1.sorted
      rw [hf3] at hso ⊢
      exact put_mid (f' := ⟨nmS (cntP A : Nat), codeV tk, min p.2 (codeV tk).length⟩) hso rfl
    rw [hE, hL]
    by_cases hfz : s1.fuse = 1
    · obtain ⟨e1, e2⟩ := act_blow (filesV 0 (cutP P0 i off)) hfz
      exact .inr ⟨e1, by omega, e2⟩
    · obtain ⟨e1, e2⟩ := act_go (filesV 0 (cutP P0 i off)) hfz
      exact .inl ⟨e1, 1, e2, by omega⟩
theorem cntP_take_le : ∀ (P : List Part) (a b : Nat), a ≤ b → cntP (P.take a) ≤ cntP (P.take b)
  | [], _, _, _ => by simp
  | p :: r, 0, b, _ => by simp [cntP]
  | p :: r, a + 1, 0, h => by omega
  | p :: r, a + 1, b + 1, h => by
    rw [List.take_succ_cons, List.take_succ_cons]
    have := cntP_take_le r a b (by omega)
    show p.1.length + _ ≤ p.1.length + _
    omega
/-- What Cut makes of a log whose segments are the store's files. -/
def CutOk (s : S) (l : Wl.L) (P0 : List Part) (off : Int) : Prop :=
  (lcutE s l off = 0 ∧ ∃ i, i < P0.length ∧ ((cntP (P0.take i) : Nat) : Int) ≤ off ∧ off ≤ (cntP (P0.take i) + (P0.getD i partD).1.length : Nat) ∧
    (∃ j, lcutS s l off = { s with fs := filesV 0 (cutP P0 i off), fuse := s.fuse - j } ∧ (s.fuse = 0 ∨ j < s.fuse)) ∧ lcutL s l off = ⟨l.most, segsV 0 (cutP P0 i off), recsP (cutP P0 i off), min l.sure off⟩) ∨
  (lcutE s l off = 11 ∧ s.fuse ≠ 0 ∧ lcutL s l off = l ∧ ∃ m, off ≤ (cntP (P0.take m) : Nat) ∧ m ≤ P0.length ∧ lcutS s l off = crash { s with fs := filesV 0 (P0.take m), fuse := 0 } s.keep)
theorem cut_fit (F : Fit s l 0 P0) (hi : St.Inv s) (ho : s.off = false) (o0 : 0 ≤ off) (o1 : off < (cntP P0 : Nat)) : CutOk s l P0 off := by
  have hP : 0 < P0.length := by
    rcases Nat.eq_zero_or_pos P0.length with h | h
    · have := List.eq_nil_of_length_eq_zero h
      subst this
      simp [cntP] at o1
      omega
    · exact h
  have hsl : l.segs.length = P0.length := by rw [F.segs, segsV_len]
  have hD : DropOk P0 off P0.length s (cutD s l off) := by
    unfold cutD
    rw [hsl]
    exact dropC_fit F.segs P0.length s hP (Nat.le_refl _) (by rw [List.take_length]; exact F.fs) hi.sorted ho
  obtain ⟨d1, d2, d3, d4⟩ := hD
  generalize hcd : cutD s l off = d at *
  obtain ⟨m, s1, e⟩ := d
  simp only at d1 d2 d3 d4
  obtain ⟨i, rfl⟩ : ∃ i, m = i + 1 := ⟨m - 1, by omega⟩
  have hil : i < P0.length := by omega
  have hadd : cntP (P0.take (i + 1)) = cntP (P0.take i) + (P0.getD i partD).1.length := by rw [part_take hil, cntP_snoc]
  have h2 : off ≤ (cntP (P0.take i) + (P0.getD i partD).1.length : Nat) := by
    rw [← hadd]
    by_cases he : i + 1 = P0.length
    · rw [he, List.take_length]; omega
    · exact d3 (i + 1) (Nat.le_refl _) (by omega)
  rcases d4 with ⟨rfl, h1, rfl, hz⟩ | ⟨rfl, hz, rfl⟩
  · have h1' : ((cntP (P0.take i) : Nat) : Int) ≤ off := by
      have : ((cntP (P0.take (i + 1 - 1)) : Nat) : Int) ≤ max off 0 := h1
      rw [Nat.add_sub_cancel] at this
      omega
    have hinv1 : St.Inv { s with fs := filesV 0 (P0.take (i + 1)), fuse := s.fuse - (P0.length - (i + 1)) } := by
      have hap : s.fs = filesV 0 (P0.take (i + 1)) ++ filesV (0 + cntP (P0.take (i + 1))) (P0.drop (i + 1)) := by
        rw [← filesV_app, List.take_append_drop]; exact F.fs
      have hsub : ∀ f ∈ filesV 0 (P0.take (i + 1)), f ∈ s.fs := fun f hf => by rw [hap]; exact List.mem_append_left _ hf
      have hso := hi.sorted
      have hto := hi.tot
      have hcn := hi.count
      rw [hap] at hso hto hcn
      rw [total_app] at hto
      rw [List.length_append] at hcn
      refine ⟨(sorted_app hso).1, fun f hf => hi.names f (hsub f hf), fun f hf => hi.sure f (hsub f hf), by show total (filesV 0 (P0.take (i + 1))) ≤ s.room; omega, hi.room, by show (filesV 0 (P0.take (i + 1))).length ≤ 64; omega, by show s.fuse - _ ≤ _; have := hi.fuse; omega, hi.keepl⟩
    have hcd1 : (cutD s l off).1 = i + 1 := by rw [hcd]
    have hcd2 : (cutD s l off).2.1 = { s with fs := filesV 0 (P0.take (i + 1)), fuse := s.fuse - (P0.length - (i + 1)) } := by rw [hcd]
    have hcd3 : (cutD s l off).2.2 = 0 := by rw [hcd]
    have hE : lcutE s l off = shE { s with fs := filesV 0 (P0.take (i + 1)), fuse := s.fuse - (P0.length - (i + 1)) } l i off := by
      unfold lcutE; rw [hcd3, if_neg (by simp), hcd1, hcd2]; rfl
    have hS : lcutS s l off = shS { s with fs := filesV 0 (P0.take (i + 1)), fuse := s.fuse - (P0.length - (i + 1)) } l i off := by
      unfold lcutS; rw [hcd3, if_neg (by simp), hcd1, hcd2]; rfl
    rcases short_fit F hil h1' h2 _ rfl hinv1 ho with ⟨a1, j, a2, a3⟩ | ⟨a1, a2, a3⟩
    · refine .inl ⟨by rw [hE, a1], i, hil, h1', h2, ⟨P0.length - (i + 1) + j, ?_, ?_⟩, ?_⟩
      · rw [hS, a2]
        have : s.fuse - (P0.length - (i + 1)) - j = s.fuse - (P0.length - (i + 1) + j) := by omega
        show ({ s with fs := filesV 0 (cutP P0 i off), fuse := s.fuse - (P0.length - (i + 1)) - j } : S) = _
        rw [this]
      · have a3 : s.fuse - (P0.length - (i + 1)) = 0 ∨ j < s.fuse - (P0.length - (i + 1)) := a3
        omega
      · unfold lcutL cutLg
        rw [if_pos (by rw [hE, a1]), hcd1]
        have er : l.recs.take (shZ l off) = recsP (cutP P0 i off) := by
          rw [cut_recs_eq hil h1' h2]
          have : shZ l off = off.toNat := by unfold shZ; rw [fit_first F]; simp
          rw [this]
          have : l.recs = recsP P0 := F.recs
          rw [this]
        have es : (l.segs.set (i + 1 - 1) ((segI l (i + 1 - 1)).1, (shN l (i + 1 - 1) off : Int))).take (i + 1) = segsV 0 (cutP P0 i off) := by
          rw [Nat.add_sub_cancel, fit_seg F hil, F.segs]
          have hN : shN l i off = (codeV ((P0.getD i partD).1.take (off - cntP (P0.take i)).toNat)).length := by unfold shN; rw [fit_shR F hil h1' h2, sizeV_code]
          rw [hN]
          have e1 : segsV 0 P0 = segsV 0 (P0.take i) ++ segsV (0 + cntP (P0.take i)) (P0.drop i) := by rw [← segsV_app, List.take_append_drop]
          have hla : (segsV 0 (P0.take i)).length = i := by rw [segsV_len, List.length_take]; omega
          have e2 : P0.drop i = P0.getD i partD :: P0.drop (i + 1) := by
            rw [List.drop_eq_getElem_cons hil, List.getD_eq_getElem?_getD, List.getElem?_eq_getElem hil]; rfl
          rw [e1, List.set_append_right _ _ (by omega), hla, Nat.sub_self, e2]
          unfold cutP
          rw [segsV_snoc, List.take_append, hla, List.take_of_length_le (by omega)]
          rw [show i + 1 - i = 1 by omega]
          simp [segsV]
        rw [es, er]
    · have a2 : s.fuse - (P0.length - (i + 1)) ≠ 0 := a2
      refine .inr ⟨by rw [hE, a1], by omega, ?_, i + 1, by rw [hadd]; exact h2, by omega, by rw [hS, a3]⟩
      unfold lcutL
      rw [if_neg (by rw [hE, a1]; decide)]
  · have hcd2 : (cutD s l off).2.1 = crash { s with fs := filesV 0 (P0.take (i + 1)), fuse := 0 } s.keep := by rw [hcd]
    have hcd3 : (cutD s l off).2.2 = 11 := by rw [hcd]
    have hE : lcutE s l off = 11 := by unfold lcutE; rw [hcd3, if_pos (by decide)]
    refine .inr ⟨hE, hz, ?_, i + 1, by rw [hadd]; exact h2, by omega, ?_⟩
    · unfold lcutL
      rw [if_neg (by rw [hE]; decide)]
    · unfold lcutS
      rw [hcd3, if_pos (by decide), hcd2]
end
end Go.Proofs.YtdbhicifjljjnaaGreatDoor
/-
  Cut, and an append that is too long, on a live log.
-/
namespace Go.Proofs.YtdbhicifjljjnaaGreatDoor
open Go.RowKit St
theorem append_long {w0 w : World} {T Lb : Nat} {most : Int} {rs : List Fr.Rc} {su : Int} {G : List (Nat × Obj)} (h : LiveAt w0 w T Lb most rs su G) (ep : Int) (e0 : 0 ≤ ep) (e1 : ep ≤ 1048575) (he : epR rs ≤ ep) (A : Option Addr) (n cap : Nat) (hl : 1024 < n) :
    Calls Tryz.prog 9 #[.pointer (some ⟨Lb, 0, none⟩), .int .i64 ep, .slice A n cap] w fun e w' => StE 0 14 e ∧ Hid (LiveAt w0 w' T Lb most rs su G) := by
  obtain ⟨s, l, P, sa, sc, ra, rc, H, L, LS, LM⟩ := h
  have hEp : Wl.epochV l ≤ ep := by
    have : Wl.epochV l = epR rs := by unfold Wl.epochV epR; rw [L.recs]
    rw [this]; exact he
  have hf := L.few
  refine (lappend_big H ep e0 e1 hEp (by rw [L.end_]; omega) A n cap hl).mono ?_
  rintro e w' ⟨h1, h2⟩
  exact ⟨h1, Lib.hid ⟨s, l, P, sa, sc, ra, rc, h2.out, L, LS, LM⟩⟩
theorem cutP_ne {P0 : List Part} {i : Nat} {off : Int} (h : i < P0.length) (hne : ∀ q ∈ P0.dropLast, q.1 ≠ []) : ∀ q ∈ (cutP P0 i off).dropLast, q.1 ≠ [] := by
  unfold cutP
  rw [List.dropLast_concat]
  intro q hq
  refine hne q ?_
  rw [List.dropLast_eq_take]
  have e : P0.take i = (P0.take (P0.length - 1)).take i := by rw [List.take_take, Nat.min_eq_left (by omega)]
  rw [e] at hq
  exact List.mem_of_mem_take hq
theorem cut_live {w0 w : World} {T Lb : Nat} {most : Int} {rs : List Fr.Rc} {G : List (Nat × Obj)} (h : LiveAt w0 w T Lb most rs 0 G) (hF : Facts w0) (off : Int) (o0 : 0 ≤ off) (o1 : off ≤ rs.length) :
    Calls Tryz.prog 13 #[.pointer (some ⟨Lb, 0, none⟩), .int .i64 off] w fun e w' => RetI 0 e ∧ Hid (LiveAt w0 w' T Lb most (rs.take off.toNat) 0 G) := by
  obtain ⟨s, l, P, sa, sc, ra, rc, H, L, LS, LM⟩ := h
  by_cases he : off = rs.length
  · refine (lcut_end H L.on off (by rw [he, L.end_])).mono ?_
    rintro e w' ⟨h1, h2⟩
    have : rs.take off.toNat = rs := by rw [he]; simp
    rw [this]
    exact ⟨h1, Lib.hid ⟨s, l, P, sa, sc, ra, rc, h2.out, L, LS, LM⟩⟩
  · have hc : cntP P = rs.length := L.cnt
    have hsl : l.segs.length = P.length := by rw [L.fit.segs, segsV_len]
    refine (lcut_in H hF L.on off (by rw [fit_first L.fit]; exact o0) (by rw [L.end_]; omega) (fun i hi => ?_) (fun i _ => fit_shN L.fit H.inv.1 i)).mono ?_
    · rw [hsl] at hi
      rw [fit_first L.fit, fit_seg L.fit hi]
      show (0 : Int) ≤ ((cntP (P.take i) : Nat) : Int)
      omega
    rintro e w' ⟨h1, h2⟩
    rcases cut_fit L.fit H.inv.1 L.on o0 (by omega) with ⟨c1, i, c2, c3, c4, ⟨j, c5, c6⟩, c7⟩ | ⟨_, c2, _⟩
    · rw [c1] at h1
      have h2 := h2.out
      rw [c5, c7] at h2
      have hr : recsP (cutP P i off) = rs.take off.toNat := by
        rw [cut_recs_eq c2 c3 c4]
        have : recsP P = rs := by rw [← L.recs]; exact L.fit.recs.symm
        rw [this]
      refine ⟨h1, Lib.hid ⟨_, _, cutP P i off, _, _, _, _, h2, ⟨⟨rfl, rfl, rfl, cutP_ne c2 L.fit.ne, Int.le_refl _⟩, hr, L.on, by show s.fuse - j = 0; rw [L.fuse]; omega, L.room, fun r hr => L.pay r (List.mem_of_mem_take hr), by have := L.few; rw [List.length_take]; omega⟩, ?_, LM⟩⟩
      show min l.sure off = 0
      rw [LS]; omega
    · exact absurd L.fuse c2
end Go.Proofs.YtdbhicifjljjnaaGreatDoor
/-
  The law WalCuts: after Cut and further records, Open restores the remaining records followed by the new ones.
-/
namespace Go.Proofs.YtdbhicifjljjnaaGreatDoor
open Go.RowKit St
def TrueC (w0 : World) (e : Ending) (w' : World) : Prop := e = .returned (.bool true) ∧ Below w0.heap.size w0 w'
theorem epR_take {rs : List Fr.Rc} {ep : Int} (hc : ∀ r ∈ rs, Pl.epochV r.1 ≤ ep) (h0 : 0 ≤ ep) (k : Nat) : epR (rs.take k) ≤ ep := by
  rcases List.eq_nil_or_concat (rs.take k) with e | ⟨a, r, e⟩
  · rw [e]; exact h0
  · rw [e, List.concat_eq_append, epR_last, lastE_snoc]
    exact hc r (List.mem_of_mem_take (by rw [e]; simp : r ∈ rs.take k))
set_option maxRecDepth 20000 in
set_option maxHeartbeats 16000000 in
theorem cuts_core (A0 : Option Addr) (ps : List (List Int)) (cap0 : Nat) (cut : Int) (A2 : Option Addr) (ms : List (List Int)) (cap2 : Nat) (h15 : ps.length ≤ 15) (h10 : ms.length ≤ 10) (c : Nat) (hcut : cut = c) (hcl : c ≤ ps.length) (w : World) (hm : Mat2 w w.heap.size A0 ps) (hm2 : Mat2 w w.heap.size A2 ms) (hF : Facts w) :
    Calls Tryz.prog 5 #[.slice A0 ps.length cap0, .int .i64 cut, .slice A2 ms.length cap2] w (TrueC w) := by
  subst hcut
  have HM := Lib.hid hm
  have HM2 := Lib.hid hm2
  have HF := Lib.hid hF
  have AW := Lib.hid (awake_any (w0 := w) (Below.refl _ _) hF)
  obtain ⟨n, hn⟩ : ∃ n, n = ps.length := ⟨_, rfl⟩
  rw [← hn] at h15 hcl ⊢
  have HN := Lib.hid hn
  obtain ⟨k, hk⟩ : ∃ k, k = ms.length := ⟨_, rfl⟩
  rw [← hk] at h10 ⊢
  have HK := Lib.hid hk
  have h15' : (n : Int) ≤ 15 := by omega
  have h10' : (k : Int) ≤ 10 := by omega
  have hcl' : (c : Int) ≤ (n : Int) := by omega
  clear hm hm2 hF hn hk
  go_enter Tryz.func5, Tryz.ntmps5
  go_wp2_with fail
  (with_reducible refine AW.out.mono ?_); rintro e w1 ⟨rfl, B1⟩
  clear AW
  have BG := Lib.hid (begun_any B1.out HF.out 120 (by decide) (by decide))
  have c1 : ¬ (15 : Int) < (n : Int) := by omega
  have c2 : ¬ (10 : Int) < (k : Int) := by omega
  have c3 : ¬ (c : Int) < 0 := by omega
  have c4 : ¬ (n : Int) < (c : Int) := by omega
  go_wp2_with fail
  (with_reducible refine BG.out.mono ?_); rintro e w2 ⟨Lb, T, rfl, H2⟩
  clear BG B1 c1 c2 c3 c4
  have L2 : Hid (LiveAt w w2 T Lb 120 (recsX 1 [] ps 0) 0 []) := Lib.hid (by obtain ⟨sa, sc, ra, rc, h⟩ := H2.out; rw [recsX_zero]; exact LiveAt.of h)
  clear H2
  go_wp2_with fail
  go_loopg [9] n (fun q iv wr => ∃ i : Nat, i ≤ n ∧ q = n - i ∧ iv = .int .i64 (i : Int) ∧ Hid (LiveAt w wr T Lb 120 (recsX 1 [] ps i) 0 []) ∧ Hid (∀ j, j < i → (ps.getD j []).length ≤ 1024))
  case atStart => exact ⟨0, Nat.zero_le _, rfl, rfl, L2, Lib.hid fun j hj => by omega⟩
  case round =>
    obtain ⟨i, hi, hq, rfl, HL, HP⟩ := hrel
    subst hq
    by_cases hlt : i < n
    · have hlp : i < ps.length := by rw [← HN.out]; exact hlt
      have hlt' : (i : Int) < (n : Int) := by omega
      have hi0 : 0 ≤ (i : Int) := by omega
      obtain ⟨b, o, Ai, ci, rfl, hbb, hc0, hby, hat, _⟩ := HM.out.at_ hlp
      have hc := ((LiveAt.below HL.out).cell (p := ⟨b, o + i, none⟩) hbb.out).trans hc0
      clear hc0
      have RS := Lib.hid (recsX_succ 1 [] ps i)
      have PG : Hid ((ps.getD i []).length ≤ 1024 → ∀ j, j < i + 1 → (ps.getD j []).length ≤ 1024) := Lib.hid (fun h j hj => by
        by_cases he : j = i
        · subst he; exact h
        · exact HP.out j (by omega))
      have EPI := Lib.hid (recsX_ep (ep := 1) (rs0 := []) ps i (by decide) (by decide) (by decide) (by simp; omega))
      generalize hp : ps.getD i [] = p at *
      obtain ⟨pn, hpn⟩ : ∃ pn, pn = p.length := ⟨_, rfl⟩
      rw [← hpn] at hc PG
      have HPN := Lib.hid hpn
      clear hp hpn
      by_cases h100 : 1024 < pn
      · have h100' : (1024 : Int) < (pn : Int) := by omega
        have AP := Lib.hid (append_long HL.out 1 (by decide) (by decide) EPI.out Ai pn ci h100)
        go_wp2_with fail
        (with_reducible refine AP.out.mono ?_); rintro e w3 ⟨rfl, L3⟩
        have hc3 := ((LiveAt.below L3.out).cell (p := ⟨b, o + i, none⟩) hbb.out).trans (((LiveAt.below HL.out).cell (p := ⟨b, o + i, none⟩) hbb.out).symm.trans hc)
        go_wp2
        go_ret
        exact ⟨rfl, LiveAt.below L3.out⟩
      · have AP := Lib.hid (append_live HL.out HF.out 1 (by decide) (by decide) EPI.out Ai pn ci p HPN.out (by omega) (by rw [recsX_len]; simp; omega) (by have := hat.out; rw [← HPN.out]; rw [← HPN.out] at this; exact this)
          (fun W s l G' sa sc ra rc hW => (hby.out.below (WRun.below hW)).more (WRun.below hW).size))
        have PG2 := Lib.hid (PG.out (by omega))
        go_wp2_with fail
        (with_reducible refine AP.out.mono ?_); rintro e w3 ⟨rfl, L3⟩
        rw [← RS.out] at L3
        go_wp2
        go_roundg (n - (i + 1))
        case measure => omega
        case rel => exact ⟨i + 1, hlt, rfl, by go_num, L3, PG2⟩
    · have e : i = n := by omega
      subst e
      clear hlt hi L2
      have CT := Lib.hid (cut_live HL.out HF.out (c : Int) (by omega) (by rw [recsX_len]; simp; omega))
      obtain ⟨rs1, hrs1⟩ : ∃ rs1, rs1 = (recsX 1 [] ps i).take c := ⟨_, rfl⟩
      rw [show ((c : Int)).toNat = c from rfl, ← hrs1] at CT
      have RL1 : Hid (rs1.length = c) := Lib.hid (by rw [hrs1, List.length_take, recsX_len]; simp; omega)
      have RG1 : Hid (∀ j, j < c → rs1.getD j (0, []) = (Pl.packV 1 (j : Int), ps.getD j [])) := Lib.hid (fun j hj => by
        have := recsX_get (ep := 1) (rs0 := []) (ps := ps) (i := i) (k := j) (by omega)
        simp only [List.length_nil, Nat.zero_add] at this
        rw [hrs1, List.getD_eq_getElem?_getD, List.getElem?_take_of_lt hj, ← List.getD_eq_getElem?_getD]
        exact this)
      have CH1 : Hid (Chain 0 0 rs1 ∧ epR rs1 ≤ 2) := Lib.hid (by
        have hch := recsX_chain (ep := 1) (rs0 := []) ps (by decide) (by decide) (by decide) trivial i (by simp; omega) HP.out
        have hsp : recsX 1 [] ps i = rs1 ++ (recsX 1 [] ps i).drop c := by rw [hrs1, List.take_append_drop]
        refine ⟨by rw [hsp, chain_app] at hch; exact hch.1, ?_⟩
        rw [hrs1]
        refine epR_take (fun r hr => ?_) (by decide) c
        obtain ⟨j, hj, rfl⟩ := List.getElem_of_mem hr
        have hj' := hj
        rw [recsX_len] at hj'
        have hj2 : j < i := by simpa using hj'
        have hg := recsX_get (ep := 1) (rs0 := []) (ps := ps) hj2
        simp only [List.length_nil, Nat.zero_add] at hg
        rw [List.getD_eq_getElem?_getD, List.getElem?_eq_getElem hj] at hg
        have hg2 : (recsX 1 [] ps i)[j] = (Pl.packV 1 (j : Int), ps.getD j []) := hg
        rw [hg2]
        have := (pack_of (show (0 : Int) ≤ 1 by decide) (show (1 : Int) ≤ 1048575 by decide) (show (0 : Int) ≤ (j : Int) by omega) (by omega)).2.1
        show Pl.epochV (Pl.packV 1 (j : Int)) ≤ 2
        rw [this]; decide)
      clear hrs1
      go_wp2_with fail
      (with_reducible refine CT.out.mono ?_); rintro e w4 ⟨rfl, L4⟩
      clear CT HL
      have L5 : Hid (LiveAt w w4 T Lb 120 (recsX 2 rs1 ms 0) 0 []) := Lib.hid (by rw [recsX_zero]; exact L4.out)
      clear L4
      go_wp2_with fail
      go_loopg [12] k (fun q iv wr => ∃ j : Nat, j ≤ k ∧ q = k - j ∧ iv = .int .i64 (j : Int) ∧ Hid (LiveAt w wr T Lb 120 (recsX 2 rs1 ms j) 0 []) ∧ Hid (∀ a, a < j → (ms.getD a []).length ≤ 1024))
      case atStart => exact ⟨0, Nat.zero_le _, rfl, rfl, L5, Lib.hid fun j hj => by omega⟩
      case round =>
        obtain ⟨j, hj, hq, rfl, HL, HP2⟩ := hrel
        subst hq
        by_cases hlt : j < k
        · have hlp : j < ms.length := by rw [← HK.out]; exact hlt
          have hlt' : (j : Int) < (k : Int) := by omega
          have hj0 : 0 ≤ (j : Int) := by omega
          obtain ⟨b, o, Ai, ci, rfl, hbb, hc0, hby, hat, _⟩ := HM2.out.at_ hlp
          have hc := ((LiveAt.below HL.out).cell (p := ⟨b, o + j, none⟩) hbb.out).trans hc0
          clear hc0
          have RS := Lib.hid (recsX_succ 2 rs1 ms j)
          have PG : Hid ((ms.getD j []).length ≤ 1024 → ∀ a, a < j + 1 → (ms.getD a []).length ≤ 1024) := Lib.hid (fun h a ha => by
            by_cases he : a = j
            · subst he; exact h
            · exact HP2.out a (by omega))
          have EPI := Lib.hid (recsX_ep (ep := 2) (rs0 := rs1) ms j (by decide) (by decide) CH1.out.2 (by rw [RL1.out]; omega))
          have RLj : Hid ((recsX 2 rs1 ms j).length < 30) := Lib.hid (by rw [recsX_len, RL1.out]; omega)
          generalize hp : ms.getD j [] = p at *
          obtain ⟨pn, hpn⟩ : ∃ pn, pn = p.length := ⟨_, rfl⟩
          rw [← hpn] at hc PG
          have HPN := Lib.hid hpn
          clear hp hpn
          by_cases h100 : 1024 < pn
          · have h100' : (1024 : Int) < (pn : Int) := by omega
            have AP := Lib.hid (append_long HL.out 2 (by decide) (by decide) EPI.out Ai pn ci h100)
            go_wp2_with fail
            (with_reducible refine AP.out.mono ?_); rintro e w5 ⟨rfl, L6⟩
            have hc3 := ((LiveAt.below L6.out).cell (p := ⟨b, o + j, none⟩) hbb.out).trans (((LiveAt.below HL.out).cell (p := ⟨b, o + j, none⟩) hbb.out).symm.trans hc)
            go_wp2
            go_ret
            exact ⟨rfl, LiveAt.below L6.out⟩
          · have AP := Lib.hid (append_live HL.out HF.out 2 (by decide) (by decide) EPI.out Ai pn ci p HPN.out (by omega) RLj.out (by have := hat.out; rw [← HPN.out]; rw [← HPN.out] at this; exact this)
              (fun W s l G' sa sc ra rc hW => (hby.out.below (WRun.below hW)).more (WRun.below hW).size))
            have PG2 := Lib.hid (PG.out (by omega))
            go_wp2_with fail
            (with_reducible refine AP.out.mono ?_); rintro e w5 ⟨rfl, L6⟩
            rw [← RS.out] at L6
            go_wp2
            go_roundg (k - (j + 1))
            case measure => omega
            case rel => exact ⟨j + 1, hlt, rfl, by go_num, L6, PG2⟩
        · have e : j = k := by omega
          subst e
          clear hlt hj L5
          have SY := Lib.hid (sync_live HL.out HF.out)
          have CH2 := Lib.hid (recsX_chain (ep := 2) (rs0 := rs1) ms (by decide) (by decide) CH1.out.2 CH1.out.1 j (by rw [RL1.out]; omega) HP2.out)
          have RL2 : Hid ((recsX 2 rs1 ms j).length = c + j) := Lib.hid (by rw [recsX_len, RL1.out])
          have RA : Hid (∀ a, a < c → (recsX 2 rs1 ms j).getD a (0, []) = (Pl.packV 1 (a : Int), ps.getD a [])) := Lib.hid (fun a ha => by rw [recsX_old (by rw [RL1.out]; exact ha)]; exact RG1.out a ha)
          have RB : Hid (∀ a, a < j → (recsX 2 rs1 ms j).getD (c + a) (0, []) = (Pl.packV 2 ((c + a : Nat) : Int), ms.getD a [])) := Lib.hid (fun a ha => by
            have := recsX_get (ep := 2) (rs0 := rs1) (ps := ms) ha
            rw [RL1.out] at this
            exact this)
          generalize recsX 2 rs1 ms j = rs at *
          clear CH1 RG1 RL1 HP HP2
          go_wp2_with fail
          (with_reducible refine SY.out.mono ?_); rintro e w6 ⟨rfl, H6⟩
          clear SY HL
          have CR := Lib.hid (crash_live H6.out none [] 0 0 rfl (by decide) (by decide) (fun h => by simp at h))
          go_wp2_with fail
          (with_reducible refine CR.out.mono ?_); rintro e w7 ⟨rfl, H7⟩
          clear CR H6
          have ON := Lib.hid (on_live H7.out)
          go_wp2_with fail
          (with_reducible refine ON.out.mono ?_); rintro e w8 ⟨rfl, H8⟩
          clear ON H7
          have OP := Lib.hid (open_live H8.out HF.out CH2.out 120 (by decide) (by decide))
          go_wp2_with fail
          (with_reducible refine OP.out.mono ?_); rintro e w9 ⟨Lc, rfl, L9⟩
          clear OP H8
          have EN := Lib.hid (end_live L9.out)
          rw [RL2.out] at EN
          have hwc : IntKind.i64.wrap ((c : Int) + (j : Int)) = ((c + j : Nat) : Int) := by rw [IntWalk.i64_in _ (by omega)]; omega
          have hcj : ((c + j : Nat) : Int) ≤ 25 := by omega
          obtain ⟨t, ht⟩ : ∃ t, t = c + j := ⟨_, rfl⟩
          rw [← ht] at EN hwc hcj RL2
          have HT := Lib.hid ht
          clear ht
          go_wp2_with fail
          (with_reducible refine EN.out.mono ?_); rintro e w10 ⟨rfl, q1, rfl⟩
          have L10 := Lib.hid (LiveAt.grow L9.out (below_n (Below.refl _ w9) q1))
          clear EN L9
          generalize w9.drewN q1 = w10 at *
          go_wp2_with fail
          go_loopg [17] t (fun q iv wr => ∃ a : Nat, a ≤ t ∧ q = t - a ∧ iv = .int .i64 (a : Int) ∧ Hid (LiveAt w wr T Lc 120 rs rs.length []))
          case atStart => exact ⟨0, Nat.zero_le _, rfl, rfl, L10⟩
          case round =>
            obtain ⟨a, ha, hq, rfl, HL⟩ := hrel
            subst hq
            have EN := Lib.hid (end_live HL.out)
            rw [RL2.out] at EN
            by_cases hlt : a < t
            · have hlt' : (a : Int) < (t : Int) := by omega
              have ha0 : 0 ≤ (a : Int) := by omega
              go_wp2_with fail
              (with_reducible refine EN.out.mono ?_); rintro e wa ⟨rfl, q1, rfl⟩
              have HLa := Lib.hid (LiveAt.grow HL.out (below_n (Below.refl _ wr) q1))
              clear EN HL L10
              generalize wr.drewN q1 = wa at *
              by_cases hac : a < c
              · have hd1 : decide ((a : Int) < (c : Int)) = true := by simp; omega
                have hd2 : decide ((c : Int) ≤ (a : Int)) = false := by simp; omega
                have hd3 : decide (c ≤ a) = false := by simp; omega
                have hai : (a : Int) < (i : Int) := by omega
                have PV := pack_of (show (0 : Int) ≤ 1 by decide) (show (1 : Int) ≤ 1048575 by decide) (show (0 : Int) ≤ (a : Int) by omega) (show (a : Int) ≤ 17592186044415 by omega)
                have GT := Lib.hid (get_live HLa.out a (by rw [RL2.out]; exact hlt))
                rw [RA.out a hac] at GT
                have EQ : Hid (∀ W, Calls Tryz.prog 21 #[.int .u64 (Pl.packV 1 (a : Int))] W fun e w' => e = .returned (.int .i64 1) ∧ W = w') := Lib.hid (fun W => by
                  have h := epoch_any (Pl.packV 1 (a : Int)) (by rw [PV.1]; omega) (by rw [PV.1]; omega) W
                  rw [PV.2.1] at h
                  exact h)
                obtain ⟨b, o, Ai, ci, rfl, hbb, hc0, hby, hat, _⟩ := HM.out.at_ (k := a) (by rw [← HN.out]; omega)
                clear PV
                generalize Pl.packV 1 (a : Int) = st at *
                generalize ps.getD a [] = p at *
                go_wp2_with fail
                (with_reducible refine GT.out.mono ?_); rintro e w5 ⟨Ag, cg, rfl, OG, B5⟩
                clear GT
                go_upto_region 33 with fail
                obtain ⟨X, hX⟩ : ∃ X, X = w5.heap.size := ⟨_, rfl⟩
                obtain ⟨W6, hW6⟩ : ∃ W6, W6 = w5.alloc (.cells #[.int .u64 st, .slice Ag p.length cg] 40) := ⟨_, rfl⟩
                have BB : Hid (Below wa.heap.size wa W6) := Lib.hid (by rw [hW6]; exact B5.out.alloc B5.out.size _)
                have L6 := Lib.hid (LiveAt.grow HLa.out BB.out)
                obtain ⟨x0, x1⟩ : W6.cell? ⟨X, 0, none⟩ = some (.int .u64 st) ∧ W6.cell? ⟨X, 1, none⟩ = some (.slice Ag p.length cg) := by
                  rw [hW6, hX]; exact obj2P (heap_alloc_new w5 _)
                have OG6 : Hid (Bytes W6 W6.heap.size Ag p) := Lib.hid (by
                  rw [hW6]
                  exact (OG.out.bytes.below (one_alloc w5 _)).more (one_alloc w5 _).size)
                rw [← hW6, ← hX]
                clear hW6 hX OG B5
                have BW := Lib.hid (LiveAt.below L6.out)
                have y0 := (BW.out.cell (p := ⟨b, o + a, none⟩) hbb.out).trans hc0
                have OY6 : Hid (Bytes W6 W6.heap.size Ai p) := Lib.hid ((hby.out.below BW.out).more BW.out.size)
                have v1 : ∀ q, (convert 31 9 (.slice Ag p.length cg)).run Tryz.prog (W6.drewN q) = .ok (.string (strOfNums p)) (W6.drewN q) := fun q => conv_str (w := W6.drewN q) (OG6.out.keep fun _ _ _ => rfl) cg
                have v3 : ∀ q, (convert 31 9 (.slice Ai p.length ci)).run Tryz.prog (W6.drewN q) = .ok (.string (strOfNums p)) (W6.drewN q) := fun q => conv_str (w := W6.drewN q) (OY6.out.keep fun _ _ _ => rfl) ci
                have EQ2 : Hid (∀ q, Calls Tryz.prog 21 #[.int .u64 st] (W6.drewN q) fun e w' => e = .returned (.int .i64 1) ∧ ∃ q2, w' = W6.drewN q2) := Lib.hid (fun q => (EQ.out (W6.drewN q)).mono fun _ _ ⟨h1, h2⟩ => ⟨h1, q, h2.symm⟩)
                generalize strOfNums p = sp at *
                clear hc0 EQ
                go_quiet ((go_at_call 21; exact EQ2.out _))
                have L7 := Lib.hid (LiveAt.grow L6.out (below_n (Below.refl _ W6) nq))
                go_wp2
                go_roundg (t - (a + 1))
                case measure => omega
                case rel => exact ⟨a + 1, hlt, rfl, by go_num, L7⟩
              · obtain ⟨d, hda0⟩ : ∃ d, a = c + d := ⟨a - c, by omega⟩
                have HDA := Lib.hid hda0
                have hd1 : decide ((a : Int) < (c : Int)) = false := by simp; omega
                have hd2 : decide ((c : Int) ≤ (a : Int)) = true := by simp; omega
                have hd3 : decide (c ≤ a) = true := by simp; omega
                have hd4 : decide (a < c) = false := by simp; omega
                have hwd : IntKind.i64.wrap ((a : Int) - (c : Int)) = (d : Int) := by rw [IntWalk.i64_in _ (by omega)]; omega
                have hdj : (d : Int) < (j : Int) := by have := HT.out; omega
                have hd0 : 0 ≤ (d : Int) := by omega
                clear hda0
                have PV := pack_of (show (0 : Int) ≤ 2 by decide) (show (2 : Int) ≤ 1048575 by decide) (show (0 : Int) ≤ (a : Int) by omega) (show (a : Int) ≤ 17592186044415 by omega)
                have GT := Lib.hid (get_live HLa.out a (by rw [RL2.out]; exact hlt))
                rw [(by have h := RB.out d (by have := HT.out; have := HDA.out; omega); rw [← HDA.out] at h; exact h : rs.getD a (0, []) = (Pl.packV 2 (a : Int), ms.getD d []))] at GT
                have EQ : Hid (∀ W, Calls Tryz.prog 21 #[.int .u64 (Pl.packV 2 (a : Int))] W fun e w' => e = .returned (.int .i64 2) ∧ W = w') := Lib.hid (fun W => by
                  have h := epoch_any (Pl.packV 2 (a : Int)) (by rw [PV.1]; omega) (by rw [PV.1]; omega) W
                  rw [PV.2.1] at h
                  exact h)
                obtain ⟨b, o, Ai, ci, rfl, hbb, hc0, hby, hat, _⟩ := HM2.out.at_ (k := d) (by rw [← HK.out]; have := HT.out; have := HDA.out; omega)
                clear PV
                generalize Pl.packV 2 (a : Int) = st at *
                generalize ms.getD d [] = p at *
                go_wp2_with fail
                (with_reducible refine GT.out.mono ?_); rintro e w5 ⟨Ag, cg, rfl, OG, B5⟩
                clear GT
                go_upto_region 33 with fail
                obtain ⟨X, hX⟩ : ∃ X, X = w5.heap.size := ⟨_, rfl⟩
                obtain ⟨W6, hW6⟩ : ∃ W6, W6 = w5.alloc (.cells #[.int .u64 st, .slice Ag p.length cg] 40) := ⟨_, rfl⟩
                have BB : Hid (Below wa.heap.size wa W6) := Lib.hid (by rw [hW6]; exact B5.out.alloc B5.out.size _)
                have L6 := Lib.hid (LiveAt.grow HLa.out BB.out)
                obtain ⟨x0, x1⟩ : W6.cell? ⟨X, 0, none⟩ = some (.int .u64 st) ∧ W6.cell? ⟨X, 1, none⟩ = some (.slice Ag p.length cg) := by
                  rw [hW6, hX]; exact obj2P (heap_alloc_new w5 _)
                have OG6 : Hid (Bytes W6 W6.heap.size Ag p) := Lib.hid (by
                  rw [hW6]
                  exact (OG.out.bytes.below (one_alloc w5 _)).more (one_alloc w5 _).size)
                rw [← hW6, ← hX]
                clear hW6 hX OG B5
                have BW := Lib.hid (LiveAt.below L6.out)
                have y0 := (BW.out.cell (p := ⟨b, o + d, none⟩) hbb.out).trans hc0
                have OY6 : Hid (Bytes W6 W6.heap.size Ai p) := Lib.hid ((hby.out.below BW.out).more BW.out.size)
                have v1 : ∀ q, (convert 31 9 (.slice Ag p.length cg)).run Tryz.prog (W6.drewN q) = .ok (.string (strOfNums p)) (W6.drewN q) := fun q => conv_str (w := W6.drewN q) (OG6.out.keep fun _ _ _ => rfl) cg
                have v3 : ∀ q, (convert 31 9 (.slice Ai p.length ci)).run Tryz.prog (W6.drewN q) = .ok (.string (strOfNums p)) (W6.drewN q) := fun q => conv_str (w := W6.drewN q) (OY6.out.keep fun _ _ _ => rfl) ci
                have EQ2 : Hid (∀ q, Calls Tryz.prog 21 #[.int .u64 st] (W6.drewN q) fun e w' => e = .returned (.int .i64 2) ∧ ∃ q2, w' = W6.drewN q2) := Lib.hid (fun q => (EQ.out (W6.drewN q)).mono fun _ _ ⟨h1, h2⟩ => ⟨h1, q, h2.symm⟩)
                generalize strOfNums p = sp at *
                clear hc0 EQ
                go_quiet ((go_at_call 21; exact EQ2.out _))
                have L7 := Lib.hid (LiveAt.grow L6.out (below_n (Below.refl _ W6) nq))
                go_wp2
                go_roundg (t - (a + 1))
                case measure => omega
                case rel => exact ⟨a + 1, hlt, rfl, by go_num, L7⟩
            · have e : a = t := by omega
              have hge : ¬ (a : Int) < (t : Int) := by omega
              go_wp2_with fail
              (with_reducible refine EN.out.mono ?_); rintro e wa ⟨rfl, q1, rfl⟩
              have HLa := Lib.hid (LiveAt.grow HL.out (below_n (Below.refl _ wr) q1))
              go_wp2
              go_ret
              exact ⟨rfl, LiveAt.below HLa.out⟩
set_option maxRecDepth 20000 in
set_option maxHeartbeats 4000000 in
theorem cuts_off (A0 : Option Addr) (n cap0 : Nat) (cut : Int) (A2 : Option Addr) (k cap2 : Nat) (h : 15 < n ∨ 10 < k ∨ cut < 0 ∨ (n : Int) < cut) (w : World) (hF : Facts w) :
    Calls Tryz.prog 5 #[.slice A0 n cap0, .int .i64 cut, .slice A2 k cap2] w (TrueC w) := by
  have AW := Lib.hid (awake_any (w0 := w) (Below.refl _ _) hF)
  clear hF
  have hc : (15 : Int) < (n : Int) ∨ (¬ (15 : Int) < (n : Int) ∧ (10 : Int) < (k : Int)) ∨ (¬ (15 : Int) < (n : Int) ∧ ¬ (10 : Int) < (k : Int) ∧ cut < 0) ∨ (¬ (15 : Int) < (n : Int) ∧ ¬ (10 : Int) < (k : Int) ∧ ¬ cut < 0 ∧ (n : Int) < cut) := by omega
  clear h
  rcases hc with hc | ⟨hc, hc2⟩ | ⟨hc, hc2, hc3⟩ | ⟨hc, hc2, hc3, hc4⟩
  all_goals
    go_enter Tryz.func5, Tryz.ntmps5
    go_wp2_with fail
    (with_reducible refine AW.out.mono ?_); rintro e w1 ⟨rfl, B1⟩
    go_wp2
    go_ret
    exact ⟨rfl, B1.out⟩
theorem cuts_walk (A0 : Option Addr) (ps : List (List Int)) (cap0 : Nat) (cut : Int) (A2 : Option Addr) (ms : List (List Int)) (cap2 : Nat) (w : World) (hm : Mat2 w w.heap.size A0 ps) (hm2 : Mat2 w w.heap.size A2 ms) (hF : Facts w) :
    Calls Tryz.prog 5 #[.slice A0 ps.length cap0, .int .i64 cut, .slice A2 ms.length cap2] w fun e w' => e = .returned (.bool true) ∧ Below w.heap.size w w' := by
  by_cases h : ps.length ≤ 15 ∧ ms.length ≤ 10 ∧ 0 ≤ cut ∧ cut ≤ ps.length
  · obtain ⟨c, hc⟩ := Int.eq_ofNat_of_zero_le h.2.2.1
    exact cuts_core A0 ps cap0 cut A2 ms cap2 h.1 h.2.1 c hc (by omega) w hm hm2 hF
  · exact cuts_off A0 _ cap0 cut A2 _ cap2 (by omega) w hF
end Go.Proofs.YtdbhicifjljjnaaGreatDoor
