/-
  The reference's Swap, where nothing is against it.
-/
import Derived.Test.YtmahbcpkilegpaaStoRefIns
import Derived.Test.YtmahbcpkilegpaaLastOp
namespace Go.Proofs.Ytmahbcpkilegpaa
open Go.RowKit St

set_option maxRecDepth 20000 in
set_option maxHeartbeats 8000000 in
theorem rswap_good (R : Nat) (own : Nat → Prop) (s : S) (w : World) (h : RState w R own s) (sa sb : ByteArray) (hE : fnd s (bs sa) [bs sb, bs sa] = 0) (hsa : sa.size ≤ 9223372036854775807) (hsb : sb.size ≤ 9223372036854775807)
    {k : Nat} (hk : k < s.fs.length) (hp : placeV (bs sa) s.fs = (k : Int)) (hfd : find (bs sa) s.fs = some (s.fs[k]'hk)) (hf : ¬ s.fuse = 1) :
    Calls Try.prog 29 #[.pointer (some ⟨R, 0, none⟩), .string sa, .string sb] w fun e w' => e = .returned (.int .i64 0) ∧ RLeaves w R own { s with fs := swapL s (bs sa) (bs sb), fuse := s.fuse - 1 } w' := by
  have H := Lib.hid h
  have IVS := Lib.hid (H.out.inv.swap (bs sa) (bs sb))
  rw [hE, show actS s 0 (swapL s (bs sa) (bs sb)) = { s with fs := swapL s (bs sa) (bs sb), fuse := s.fuse - 1 } by unfold actS; simp [hf]] at IVS
  obtain ⟨ho, hall, _⟩ := fnd_zero hE
  have hga : good (bs sa) = true := by simp at hall; exact hall.2
  have hgb : good (bs sb) = true := by simp at hall; exact hall.1
  clear hall hE
  have BL := Lib.hid (rblown_any R own s w H.out ho)
  rw [if_neg hf, decide_eq_false hf] at BL
  obtain ⟨rf, rk, Ad, fa, fc, ka, kc, p, b⟩ := h
  have GA : Hid (Calls Try.prog 48 #[.string sa] w fun e w' => e = .returned (.bool true) ∧ w = w') := Lib.hid (by rw [← hga]; exact goodName_any sa hsa w)
  have GB : Hid (Calls Try.prog 48 #[.string sb] w fun e w' => e = .returned (.bool true) ∧ w = w') := Lib.hid (by rw [← hgb]; exact goodName_any sb hsb w)
  have FD : Hid (∀ (W : World) rf rk Ad fa fc ka kc s', s'.fs = s.fs → RS W R s' rf rk Ad fa fc ka kc → Calls Try.prog 45 #[.pointer (some ⟨R, 0, none⟩), .string sa] W fun e w' => e = .returned (.int .i64 (k : Int)) ∧ W = w') := Lib.hid (fun W rf rk Ad fa fc ka kc s' he hr => by
    have := rfind_any hr sa
    rw [he, hp] at this; exact this)
  have FD1 := Lib.hid (FD.out w _ _ _ _ _ _ _ s rfl p.rs)
  obtain ⟨⟨_, _, c2, _, _⟩, _⟩ := obj5 p.rs.obj
  rw [ho] at c2
  have hk0 : ¬ (k : Int) < 0 := by omega
  have HK := Lib.hid hk
  have HGB := Lib.hid hgb
  have EF : Hid (file s (bs sa) = s.fs[k]'HK.out) := Lib.hid (by unfold file; rw [hfd]; rfl)
  have DA := Lib.hid (drop_at H.out.inv hk hfd)
  have NMA : Hid ((s.fs[k]'HK.out).nm = bs sa) := Lib.hid (find_some hfd).2
  clear p b ho hga hgb hp hfd hf
  go_enter Try.func29, Try.ntmps29
  go_wp2_with fail
  refine GA.out.mono ?_; rintro e w' ⟨rfl, rfl⟩
  go_wp2_with fail
  refine GB.out.mono ?_; rintro e w' ⟨rfl, rfl⟩
  go_wp2_with fail
  refine FD1.out.mono ?_; rintro e w' ⟨rfl, rfl⟩
  go_wp2_with fail
  refine BL.out.mono ?_; rintro e wq ⟨rfl, own2, ⟨rf2, rk2, Ad2, fa2, fc2, ka2, kc2, p2, bb2⟩, st⟩
  clear c2 GA GB FD1 BL
  have P := Lib.hid p2
  have B := Lib.hid bb2
  have ST := Lib.hid st
  clear p2 bb2 st hk
  obtain ⟨g2, hg2, d1, d2, d3⟩ := P.out.rs.cell (i := k) HK.out
  obtain ⟨⟨_, c1, _, _, _⟩, _⟩ := obj5 P.out.rs.obj
  obtain ⟨f, HF⟩ : ∃ f, Hid (f = s.fs[k]'HK.out) := ⟨_, Lib.hid rfl⟩
  replace d1 : wq.cell? ⟨g2, k * 3, none⟩ = some (.string (mkB f.nm)) := by rw [HF.out]; exact d1
  replace d2 : wq.cell? ⟨g2, k * 3 + 1, none⟩ = some (.slice (Ad2 f.nm).1 f.zs.length (Ad2 f.nm).2) := by rw [HF.out]; exact d2
  replace d3 : wq.cell? ⟨g2, k * 3 + 2, none⟩ = some (.int .i64 (f.sure : Int)) := by rw [HF.out]; exact d3
  replace c1 : wq.cell? ⟨R, 1, none⟩ = some (.slice fa2 s.fs.length fc2) := c1
  have hlk : (k : Int) < (s.fs.length : Int) := by have := HK.out; omega
  have hlk0 : 0 ≤ (k : Int) := by omega
  obtain ⟨ln, hln⟩ : ∃ ln, ln = s.fs.length := ⟨_, rfl⟩
  rw [← hln] at c1 hlk
  have LN := Lib.hid hln
  clear hln
  have HG2 := Lib.hid hg2
  subst hg2
  obtain ⟨x1, hx1⟩ : ∃ x1, x1 = (Ad2 f.nm).1 := ⟨_, rfl⟩
  obtain ⟨x2, hx2⟩ : ∃ x2, x2 = (Ad2 f.nm).2 := ⟨_, rfl⟩
  obtain ⟨xn, hxn⟩ : ∃ xn, xn = f.zs.length := ⟨_, rfl⟩
  rw [← hx1, ← hx2, ← hxn] at d2
  have X1 := Lib.hid hx1
  have X2 := Lib.hid hx2
  have XN := Lib.hid hxn
  obtain ⟨fnm, hfn⟩ : ∃ fnm, fnm = mkB f.nm := ⟨_, rfl⟩
  rw [← hfn] at d1
  obtain ⟨fsu, hfs⟩ : ∃ fsu : Int, fsu = (f.sure : Int) := ⟨_, rfl⟩
  rw [← hfs] at d3
  clear hx1 hx2 hxn hfn hfs
  have lg1 : g2 < wq.heap.size := P.out.lt _ (P.out.ownF _ rfl)
  have lR1 : R < wq.heap.size := P.out.lt _ P.out.ownT
  have BA : Hid (∀ o, Below wq.heap.size wq (wq.alloc o).drew) := Lib.hid fun o => (((Below.refl _ _).alloc (Nat.le_refl _) o).drew)
  have QA : Hid (∀ o, (wq.alloc o).drew.cell? ⟨R, 1, none⟩ = some (.slice (some ⟨g2, 0, none⟩) ln fc2) ∧ (wq.alloc o).drew.cell? ⟨g2, k * 3, none⟩ = some (.string fnm) ∧ (wq.alloc o).drew.cell? ⟨g2, k * 3 + 1, none⟩ = some (.slice x1 xn x2) ∧ (wq.alloc o).drew.cell? ⟨g2, k * 3 + 2, none⟩ = some (.int .i64 fsu)) :=
    Lib.hid fun o => ⟨((BA.out o).cell (p := ⟨R, 1, none⟩) lR1).trans c1, ((BA.out o).cell (p := ⟨g2, k * 3, none⟩) lg1).trans d1, ((BA.out o).cell (p := ⟨g2, k * 3 + 1, none⟩) lg1).trans d2, ((BA.out o).cell (p := ⟨g2, k * 3 + 2, none⟩) lg1).trans d3⟩
  have FDA := Lib.hid (fun o => FD.out (wq.alloc o).drew _ _ _ _ _ _ _ { s with fuse := s.fuse - 1 } rfl (P.out.grow (BA.out o)).rs)
  have FDB := Lib.hid (FD.out wq.drew _ _ _ _ _ _ _ { s with fuse := s.fuse - 1 } rfl (P.out.grow (Below.refl _ _).drew).rs)
  go_upto_region 9 with fail
  go_cut [7] from 27 to 35 (fun xv wx => xv = .pointer (some ⟨wq.heap.size, 0, none⟩) ∧ wx = (wq.alloc (.cells #[.string fnm, .slice x1 xn x2, .int .i64 fsu] 76)).drew)
  case first =>
    go_region_held3 (fun w' => w'.cell? ⟨R, 1, none⟩ = some (.slice (some ⟨g2, 0, none⟩) ln fc2) ∧ w'.cell? ⟨g2, k * 3, none⟩ = some (.string fnm) ∧ w'.cell? ⟨g2, k * 3 + 1, none⟩ = some (.slice x1 xn x2) ∧ w'.cell? ⟨g2, k * 3 + 2, none⟩ = some (.int .i64 fsu)) ((first | exact ⟨c1, d1, d2, d3⟩ | exact QA.out _ | go_keep))
      (first
        | (go_simp; go_at_call 45; (with_reducible refine (FDA.out _).mono ?_); rintro e w3 ⟨rfl, rfl⟩)
        | (go_simp; go_at_call 45; (with_reducible refine FDB.out.mono ?_); rintro e w3 ⟨rfl, rfl⟩))
    all_goals (go_wp2_with fail; go_meet; exact ⟨rfl, rfl⟩)
  case rest =>
    obtain ⟨rfl, rfl⟩ := hcut
    clear FDA FDB QA
    go_upto_region 12 with fail
    have XB : Hid ((wq.alloc (.cells #[.string sb, .slice x1 xn x2, .int .i64 (xn : Int)] 76)).drew.heap[wq.heap.size]? = some (.cells #[.string sb, .slice x1 xn x2, .int .i64 (xn : Int)] 76 (0, 0))) := Lib.hid (heap_alloc_new wq _)
    have B3 := Lib.hid (BA.out (.cells #[.string sb, .slice x1 xn x2, .int .i64 (xn : Int)] 76))
    have SZ3 : Hid (wq.heap.size < (wq.alloc (.cells #[.string sb, .slice x1 xn x2, .int .i64 (xn : Int)] 76)).drew.heap.size) := Lib.hid (by simp [World.drew])
    generalize (wq.alloc (.cells #[.string sb, .slice x1 xn x2, .int .i64 (xn : Int)] 76)).drew = w3 at *
    have FD3 := Lib.hid (FD.out w3 _ _ _ _ _ _ _ { s with fuse := s.fuse - 1 } rfl (P.out.grow B3.out).rs)
    have GN := Lib.hid (rgone_any (P.out.grow B3.out) k HK.out)
    clear c1 d1 d2 d3 BA FD
    go_wp2_with fail
    refine FD3.out.mono ?_; rintro e w' ⟨rfl, rfl⟩
    go_wp2_with fail
    refine GN.out.mono ?_; rintro e w4 ⟨rfl, own4, fa4, fc4, p4, st4, kp4, sub4⟩
    obtain ⟨fs1, hfs1⟩ : ∃ fs1, fs1 = del (bs sa) s.fs := ⟨_, rfl⟩
    have P4 : Hid (RP w4 R own4 { s with fs := fs1, fuse := s.fuse - 1 } rf2 rk2 Ad2 fa4 fc4 ka2 kc2) := Lib.hid (by rw [hfs1, DA.out]; exact p4)
    have FS1 := Lib.hid hfs1
    have ST4 := Lib.hid (Step.ahead B3.out st4)
    have KP4 : Hid (∀ j, j < wq.heap.size → j ≠ R → w4.heap[j]? = wq.heap[j]?) := Lib.hid fun j hj hne => (kp4 j (by have := SZ3.out; omega) hne).trans (B3.out.block j hj)
    have SZ4 : Hid (wq.heap.size < w4.heap.size) := Lib.hid (by have := st4.only.size; have := SZ3.out; omega)
    have XB4 : Hid (w4.heap[wq.heap.size]? = some (.cells #[.string sb, .slice x1 xn x2, .int .i64 (xn : Int)] 76 (0, 0))) := Lib.hid ((kp4 _ SZ3.out (by omega)).trans XB.out)
    have SUB4 := Lib.hid sub4
    clear p4 st4 kp4 hfs1 FD3 GN sub4
    have FD4 := Lib.hid (rfind_any P4.out.rs sb)
    have PF := Lib.hid (placeV_find (bs sb) fs1)
    replace FD4 : Hid (Calls Try.prog 45 #[.pointer (some ⟨R, 0, none⟩), .string sb] w4 fun e w' => e = .returned (.int .i64 (placeV (bs sb) fs1)) ∧ w4 = w') := FD4
    generalize hpv : placeV (bs sb) fs1 = pv at FD4 PF
    go_wp2_with fail
    refine FD4.out.mono ?_; rintro e w' ⟨rfl, rfl⟩
    go_upto_if 50 with fail
    go_cut [7] from 51 to 55 (fun xv wx => xv = .pointer (some ⟨wq.heap.size, 0, none⟩) ∧ ∃ own5 fa5 fc5, Hid (RP wx R own5 { s with fs := del (bs sb) fs1, fuse := s.fuse - 1 } rf2 rk2 Ad2 fa5 fc5 ka2 kc2) ∧ Hid (Step own2 own5 wq wx) ∧ Hid (∀ j, j < wq.heap.size → j ≠ R → wx.heap[j]? = wq.heap[j]?) ∧ Hid (wx.heap[wq.heap.size]? = some (.cells #[.string sb, .slice x1 xn x2, .int .i64 (xn : Int)] 76 (0, 0))) ∧ Hid (∀ j, own2 j → own5 j))
    case first =>
      rcases PF.out with ⟨k2, hk2, p1, p2⟩ | ⟨p1, p2⟩
      · subst p1
        have hk20 : (0 : Int) ≤ (k2 : Int) := by omega
        have DB := Lib.hid (drop_at (s := { s with fs := fs1, fuse := s.fuse - 1 }) P4.out.rs.inv hk2 p2)
        have GN := Lib.hid (rgone_any P4.out k2 hk2)
        clear p2
        go_wp2_with fail
        refine FD4.out.mono ?_; rintro e w' ⟨rfl, rfl⟩
        go_wp2_with fail
        refine GN.out.mono ?_; rintro e w5 ⟨rfl, own5, fa5, fc5, p5, st5, kp5, sub5⟩
        have P5 : Hid (RP w5 R own5 { s with fs := del (bs sb) fs1, fuse := s.fuse - 1 } rf2 rk2 Ad2 fa5 fc5 ka2 kc2) := Lib.hid (by rw [show del (bs sb) fs1 = _ from DB.out]; exact p5)
        have ST5 := Lib.hid (ST4.out.trans st5)
        have KP5 : Hid (∀ j, j < wq.heap.size → j ≠ R → w5.heap[j]? = wq.heap[j]?) := Lib.hid fun j hj hne => (kp5 j (by have := SZ4.out; omega) hne).trans (KP4.out j hj hne)
        have XB5 := Lib.hid ((kp5 _ SZ4.out (by omega)).trans XB4.out)
        have SUB5 : Hid (∀ j, own2 j → own5 j) := Lib.hid fun j hj => sub5 j (SUB4.out j hj)
        clear p5 st5 kp5 sub5
        go_wp2
        go_meet
        exact ⟨rfl, own5, fa5, fc5, P5, ST5, KP5, XB5, SUB5⟩
      · subst p1
        have DB : Hid (del (bs sb) fs1 = fs1) := Lib.hid (del_none p2)
        clear p2
        go_wp2
        go_meet
        refine ⟨rfl, own4, fa4, fc4, ?_, ST4, KP4, XB4, SUB4⟩
        rw [DB.out]; exact P4
    case rest =>
      obtain ⟨rfl, own5, fa5, fc5, P5', ST5, KP5, XB5', SUB5⟩ := hcut
      obtain ⟨fs2, hfs2⟩ : ∃ fs2, fs2 = del (bs sb) fs1 := ⟨_, rfl⟩
      have P5 : Hid (RP wc R own5 { s with fs := fs2, fuse := s.fuse - 1 } rf2 rk2 Ad2 fa5 fc5 ka2 kc2) := Lib.hid (by rw [hfs2]; exact P5'.out)
      have FS2 := Lib.hid hfs2
      obtain ⟨X, hX⟩ : ∃ X, X = wq.heap.size := ⟨_, rfl⟩
      rw [← hX] at XB5'
      have XB5 := XB5'
      have HXX := Lib.hid hX
      have XR : Hid (X ≠ R) := Lib.hid (by have := lR1; omega)
      rw [← hX]
      clear P5' XB5' P4 ST4 KP4 XB4 SUB4 FD4 hfs2 hX
      have XLT : Hid (X < wc.heap.size) := Lib.hid (Array.getElem?_eq_some_iff.1 XB5.out).1
      have XC : Hid (∀ w', Below wc.heap.size wc w' → w'.cell? ⟨X, 0, none⟩ = some (.string sb) ∧ w'.cell? ⟨X, 1, none⟩ = some (.slice x1 xn x2) ∧ w'.cell? ⟨X, 2, none⟩ = some (.int .i64 (xn : Int))) := Lib.hid fun w' hb => by
        have h := (hb.block X XLT.out).trans XB5.out
        simp [World.cell?, h]
      have XS : Hid (∀ w7 v, Below wc.heap.size wc w7 → (w7.setCell ⟨R, 1, none⟩ v).cell? ⟨X, 0, none⟩ = some (.string sb) ∧ (w7.setCell ⟨R, 1, none⟩ v).cell? ⟨X, 1, none⟩ = some (.slice x1 xn x2) ∧ (w7.setCell ⟨R, 1, none⟩ v).cell? ⟨X, 2, none⟩ = some (.int .i64 (xn : Int))) := Lib.hid fun w7 v hb => by
        have h := (Below.heap_setCell w7 ⟨R, 1, none⟩ v X XR.out).trans ((hb.block X XLT.out).trans XB5.out)
        simp only [World.cell?, h]
        simp
      obtain ⟨⟨_, c1, _, _, _⟩, _⟩ := obj5 P5.out.rs.obj
      replace c1 : wc.cell? ⟨R, 1, none⟩ = some (.slice fa5 fs2.length fc5) := c1
      obtain ⟨l2, hl2⟩ : ∃ l2, l2 = fs2.length := ⟨_, rfl⟩
      rw [← hl2] at c1
      have LN2 := Lib.hid hl2
      have hl264 : (l2 : Int) ≤ 64 := by have := P5.out.rs.inv.count; rw [hl2]; simp only at this; omega
      have hln64 : (l2 : Int) ≤ 64 := hl264
      clear hl2
      go_upto_block 0 with fail
      go_cut [8] from 56 to 76 (fun kv wx => ∃ k : Nat, kv = .int .i64 (k : Int) ∧ Hid (k ≤ l2) ∧ Hid (∀ j (hj : j < fs2.length), j < k → bytesBefore (fs2[j]'hj).nm (bs sb) = true) ∧ Hid (∀ hj : k < fs2.length, ¬ bytesBefore (fs2[k]'hj).nm (bs sb) = true) ∧ wx = wc)
      case first =>
        go_wp2_with fail
        go_loop [8] (fun i => ∃ k : Nat, k ≤ l2 ∧ Hid (∀ j (hj : j < fs2.length), j < k → bytesBefore (fs2[j]'hj).nm (bs sb) = true) ∧ i = .int .i64 k) (fun i => l2 - (intOf i).toNat)
        case atStart => exact ⟨0, Nat.zero_le _, Lib.hid fun j _ hj => by omega, rfl⟩
        case round =>
          obtain ⟨k, hk0, HB, rfl⟩ := hrel
          by_cases hlt : k < l2
          · have hl : k < fs2.length := by rw [← LN2.out]; exact hlt
            obtain ⟨g2, hg2, d1, d2, d3⟩ := P5.out.rs.cell (i := k) hl
            clear d2 d3
            obtain ⟨nm, hnm⟩ : ∃ nm, (fs2[k]'hl).nm = nm := ⟨_, rfl⟩
            replace d1 : wc.cell? ⟨g2, k * 3, none⟩ = some (.string (mkB nm)) := by rw [← hnm]; exact d1
            have hlt' : (k : Int) < (l2 : Int) := by omega
            subst hg2
            cases hb : Op.bytesLess (mkB nm).toList sb.toList with
            | true =>
              have HB2 : Hid (∀ j (hj : j < fs2.length), j < k + 1 → bytesBefore (fs2[j]'hj).nm (bs sb) = true) := Lib.hid fun j hj hlt2 => by
                by_cases e : j = k
                · subst e; rw [hnm, ← less_as]; exact hb
                · exact HB.out j hj (by omega)
              clear hnm
              go_wp2
              go_round
              case rel => exact ⟨k + 1, hlt, HB2, by go_num⟩
              case measure => simp [intOf]; omega
            | false =>
              have HX : Hid (∀ hj : k < fs2.length, ¬ bytesBefore (fs2[k]'hj).nm (bs sb) = true) := Lib.hid fun hj => by rw [hnm, ← less_as, hb]; simp
              clear hnm
              go_wp2
              go_meet
              exact ⟨k, rfl, Lib.hid hk0, HB, HX, rfl⟩
          · have e : k = l2 := by omega
            subst e
            have hge : ¬ (k : Int) < (k : Int) := by omega
            have HX : Hid (∀ hj : k < fs2.length, ¬ bytesBefore (fs2[k]'hj).nm (bs sb) = true) := Lib.hid fun hj => by have := LN2.out; omega
            go_wp2
            go_meet
            exact ⟨k, rfl, Lib.hid hk0, HB, HX, rfl⟩
      case rest =>
        obtain ⟨k, rfl, HKL, HB, HX, rfl⟩ := hcut
        have SRC := Lib.hid (SrcF.of P5.out.rs.files)
        have hcap := ownsRow_capF P5.out.rs.files
        have hkl := HKL.out
        have hlen := flat3_len Ad2 fs2
        have HR3 := Lib.hid (P5.out.lt R P5.out.ownT)
        have lR : R < wc.heap.size := HR3.out
        have LT : Hid ((flat3 Ad2 (fs2.take k)).length = k * 3) := Lib.hid (by rw [flat3_len, List.length_take]; have := LN2.out; omega)
        have LD : Hid ((flat3 Ad2 (fs2.drop k)).length = (l2 - k) * 3) := Lib.hid (by rw [flat3_len, List.length_drop, LN2.out])
        have S1 : Hid (SrcF wc wc.heap.size fa5 (flat3 Ad2 (fs2.take k))) := Lib.hid (by rw [← flat3_take]; exact SRC.out.head _)
        have S2 : Hid (SrcF wc wc.heap.size (tail3 fa5 fc5 k) (flat3 Ad2 (fs2.drop k))) := Lib.hid (by rw [← flat3_drop]; exact SRC.out.tail _ _ (by rw [flat3_len]; have : fs2.length ≤ fc5 := hcap; omega))
        replace hcap : l2 ≤ fc5 := by rw [LN2.out]; exact hcap
        have hs1 := fun W => slice_toF fa5 l2 fc5 k (by omega) .i64 W
        have hs2 := fun W => slice_fromF fa5 l2 fc5 k (by omega) .i64 W
        have hk1 : 0 + k ≤ 1000 := by omega
        have hk2 : k + 1 ≤ 1000 := by omega
        have hk3 : k + 1 + (l2 - k) ≤ 1000 := by omega
        obtain ⟨n3, hn3⟩ : ∃ n3, k + 1 + (l2 - k) = n3 := ⟨_, rfl⟩
        have HN3 := Lib.hid hn3
        clear hn3
        obtain ⟨⟨_, e1, _, _, _⟩, _, f1, _⟩ := obj5 P5.out.rs.obj
        replace e1 : wc.cell? ⟨R, 1, none⟩ = some (.slice fa5 l2 fc5) := by rw [LN2.out]; exact e1
        have FZ : Hid (∀ w', Below wc.heap.size wc w' → w'.frozen? ⟨R, 1, none⟩ = false) := Lib.hid fun w' hb => by
          have := f1; simp only [World.frozen?] at this ⊢; rw [hb.block R lR]; exact this
        have CE : Hid (∀ w', Below wc.heap.size wc w' → w'.cell? ⟨R, 1, none⟩ = some (.slice fa5 l2 fc5)) := Lib.hid fun w' hb => (hb.cell (p := ⟨R, 1, none⟩) lR).trans e1
        have BA : Hid (Below wc.heap.size wc (wc.alloc lit0).drew) := Lib.hid (((Below.refl _ _).alloc (Nat.le_refl _) _).drew)
        have BB : Hid (Below wc.heap.size wc (wc.alloc (lit1 (.string sb) (.slice x1 xn x2) (.int .i64 (xn : Int)))).drew) := Lib.hid (((Below.refl _ _).alloc (Nat.le_refl _) _).drew)
        have BAB : Hid (Below wc.heap.size wc ((wc.alloc lit0).alloc (lit1 (.string sb) (.slice x1 xn x2) (.int .i64 (xn : Int)))).drew) := Lib.hid ((((Below.refl _ _).alloc (Nat.le_refl _) _).alloc (by simp) _).drew)
        have BBA : Hid (Below wc.heap.size wc ((wc.alloc (lit1 (.string sb) (.slice x1 xn x2) (.int .i64 (xn : Int)))).alloc lit0).drew) := Lib.hid ((((Below.refl _ _).alloc (Nat.le_refl _) _).alloc (by simp) _).drew)
        have NAB : Hid (((wc.alloc lit0).alloc (lit1 (.string sb) (.slice x1 xn x2) (.int .i64 (xn : Int)))).drew.heap[wc.heap.size + 1]? = some (lit1 (.string sb) (.slice x1 xn x2) (.int .i64 (xn : Int)))) := Lib.hid (by
          have := lit_new (wc.alloc lit0) (.string sb) (.slice x1 xn x2) (.int .i64 (xn : Int))
          rw [show (wc.alloc lit0).heap.size = wc.heap.size + 1 by simp] at this; exact this)
        have NBA : Hid (((wc.alloc (lit1 (.string sb) (.slice x1 xn x2) (.int .i64 (xn : Int)))).alloc lit0).drew.heap[wc.heap.size]? = some (lit1 (.string sb) (.slice x1 xn x2) (.int .i64 (xn : Int)))) := Lib.hid (Eq.trans (Below.heap_alloc _ _ _ (by simp)) (lit_new wc (.string sb) (.slice x1 xn x2) (.int .i64 (xn : Int))))
        have y1 := CE.out _ BA.out
        have y2 := CE.out _ BB.out
        have y3 := CE.out _ BAB.out
        have y4 := CE.out _ BBA.out
        simp only [lit0, lit1] at y1 y2 y3 y4
        clear f1 hcap hkl hlen
        go_upto_region 18 with fail
        go_cut [8] from 77 to 97 (fun kv wx => ∃ w7 A7 c7, kv = .int .i64 (k : Int) ∧ wx = w7.setCell ⟨R, 1, none⟩ (.slice A7 n3 c7) ∧ Hid (Below wc.heap.size wc w7) ∧ Hid (w7.ownsRow wc.heap.size 76 3 (.slice A7 n3 c7) n3 ([] ++ flat3 Ad2 (fs2.take k) ++ [.string sb, .slice x1 xn x2, .int .i64 (xn : Int)] ++ flat3 Ad2 (fs2.drop k))))
        case first =>
          refine wp_region_C (fun w' => w'.cell? ⟨R, 1, none⟩ = some (.slice fa5 l2 fc5) ∧ w'.cell? ⟨X, 0, none⟩ = some (.string sb) ∧ w'.cell? ⟨X, 1, none⟩ = some (.slice x1 xn x2) ∧ w'.cell? ⟨X, 2, none⟩ = some (.int .i64 (xn : Int))) 21 (by kernel_rfl) ?_
          have hS0 : (fun w' : World => w'.cell? ⟨R, 1, none⟩ = some (.slice fa5 l2 fc5) ∧ w'.cell? ⟨X, 0, none⟩ = some (.string sb) ∧ w'.cell? ⟨X, 1, none⟩ = some (.slice x1 xn x2) ∧ w'.cell? ⟨X, 2, none⟩ = some (.int .i64 (xn : Int))) wc.drew := ⟨CE.out _ (Below.refl _ _).drew, XC.out _ (Below.refl _ _).drew⟩
          refine wpAnyC_take (i := 0) (oi := ?o77) (v := ?v77) ?hi77 (by kernel_rfl) (by kernel_rfl) (by kernel_rfl) ?hQ77 (by kernel_rfl) (by decide) (by kernel_rfl) (Or.inl ⟨?hg77, ?hy77⟩) (by assumption) ?rest77
          case hi77 => (simp only [List.getElem?_toArray, List.getElem?_cons_zero]; exact rfl)
          case hQ77 => exact fun _ _ _ h => h
          case hg77 => rfl
          case hy77 => (intro w' hSw; (try dsimp only at hSw); go_simp; try with_reducible rfl)
          try simp only [Act.put, List.setIfInBounds_toArray, List.set_cons_zero, List.set_cons_succ]
          refine wpAnyC_take (i := 2) (oi := ?o78) (v := ?v78) ?hi78 (by kernel_rfl) (by kernel_rfl) (by kernel_rfl) ?hQ78 (by kernel_rfl) (by decide) (by kernel_rfl) (Or.inl ⟨?hg78, ?hy78⟩) (by assumption) ?rest78
          case hi78 => (simp only [List.getElem?_toArray, List.getElem?_cons_zero, List.getElem?_cons_succ]; exact rfl)
          case hQ78 => exact fun _ _ _ h => h
          case hg78 => rfl
          case hy78 => (intro w' hSw; (try dsimp only at hSw); go_simp; try with_reducible rfl)
          try simp only [Act.put, List.setIfInBounds_toArray, List.set_cons_zero, List.set_cons_succ]
          refine wpAnyC_take (i := 3) (oi := ?o79) (v := ?v79) ?hi79 (by kernel_rfl) (by kernel_rfl) (by kernel_rfl) ?hQ79 (by kernel_rfl) (by decide) (by kernel_rfl) (Or.inl ⟨?hg79, ?hy79⟩) (by assumption) ?rest79
          case hi79 => (simp only [List.getElem?_toArray, List.getElem?_cons_zero, List.getElem?_cons_succ]; exact rfl)
          case hQ79 => exact fun _ _ _ h => h
          case hg79 => rfl
          case hy79 => (intro w' hSw; (try dsimp only at hSw); go_simp; try with_reducible rfl)
          try simp only [Act.put, List.setIfInBounds_toArray, List.set_cons_zero, List.set_cons_succ]
          refine wpAnyC_take (i := 4) (oi := ?o80) (v := ?v80) ?hi80 (by kernel_rfl) (by kernel_rfl) (by kernel_rfl) ?hQ80 (by kernel_rfl) (by decide) (by kernel_rfl) (Or.inl ⟨?hg80, ?hy80⟩) (by assumption) ?rest80
          case hi80 => (simp only [List.getElem?_toArray, List.getElem?_cons_zero, List.getElem?_cons_succ]; exact rfl)
          case hQ80 => exact fun _ _ _ h => h
          case hg80 => rfl
          case hy80 => (intro w' hSw; (try dsimp only at hSw); go_simp; try with_reducible rfl)
          try simp only [Act.put, List.setIfInBounds_toArray, List.set_cons_zero, List.set_cons_succ]
          refine wpAnyC_take (i := 5) (oi := ?o81) (v := ?v81) ?hi81 (by kernel_rfl) (by kernel_rfl) (by kernel_rfl) ?hQ81 (by kernel_rfl) (by decide) (by kernel_rfl) (Or.inl ⟨?hg81, ?hy81⟩) (by assumption) ?rest81
          case hi81 => (simp only [List.getElem?_toArray, List.getElem?_cons_zero, List.getElem?_cons_succ]; exact rfl)
          case hQ81 => exact fun _ _ _ h => h
          case hg81 => rfl
          case hy81 => (intro w' hSw; (try dsimp only at hSw); go_simp; try with_reducible rfl)
          try simp only [Act.put, List.setIfInBounds_toArray, List.set_cons_zero, List.set_cons_succ]
          refine wpAnyC_take (i := 6) (oi := ?o82) (v := ?v82) ?hi82 (by kernel_rfl) (by kernel_rfl) (by kernel_rfl) ?hQ82 (by kernel_rfl) (by decide) (by kernel_rfl) (Or.inl ⟨?hg82, ?hy82⟩) (by assumption) ?rest82
          case hi82 => (simp only [List.getElem?_toArray, List.getElem?_cons_zero, List.getElem?_cons_succ]; exact rfl)
          case hQ82 => exact fun _ _ _ h => h
          case hg82 => rfl
          case hy82 => (intro w' hSw; (try dsimp only at hSw); go_simp; try with_reducible rfl)
          try simp only [Act.put, List.setIfInBounds_toArray, List.set_cons_zero, List.set_cons_succ]
          refine wpAnyC_take (i := 7) (oi := ?o83) (v := ?v83) ?hi83 (by kernel_rfl) (by kernel_rfl) (by kernel_rfl) ?hQ83 (by kernel_rfl) (by decide) (by kernel_rfl) (Or.inl ⟨?hg83, ?hy83⟩) (by assumption) ?rest83
          case hi83 => (simp only [List.getElem?_toArray, List.getElem?_cons_zero, List.getElem?_cons_succ]; exact rfl)
          case hQ83 => exact fun _ _ _ h => h
          case hg83 => rfl
          case hy83 => (intro w' hSw; (try dsimp only at hSw); go_simp; try with_reducible rfl)
          try simp only [Act.put, List.setIfInBounds_toArray, List.set_cons_zero, List.set_cons_succ]
          refine wpAnyC_take (i := 9) (oi := ?o84) (v := ?v84) ?hi84 (by kernel_rfl) (by kernel_rfl) (by kernel_rfl) ?hQ84 (by kernel_rfl) (by decide) (by kernel_rfl) (Or.inl ⟨?hg84, ?hy84⟩) (by assumption) ?rest84
          case hi84 => (simp only [List.getElem?_toArray, List.getElem?_cons_zero, List.getElem?_cons_succ]; exact rfl)
          case hQ84 => exact fun _ _ _ h => h
          case hg84 => rfl
          case hy84 => (intro w' hSw; (try dsimp only at hSw); go_simp; try with_reducible rfl)
          try simp only [Act.put, List.setIfInBounds_toArray, List.set_cons_zero, List.set_cons_succ]
          refine wpAnyC_take (i := 12) (oi := ?o85) (v := ?v85) ?hi85 (by kernel_rfl) (by kernel_rfl) (by kernel_rfl) ?hQ85 (by kernel_rfl) (by decide) (by kernel_rfl) (Or.inl ⟨?hg85, ?hy85⟩) (by assumption) ?rest85
          case hi85 => (simp only [List.getElem?_toArray, List.getElem?_cons_zero, List.getElem?_cons_succ]; exact rfl)
          case hQ85 => exact fun _ _ _ h => h
          case hg85 => rfl
          case hy85 => (intro w' hSw; (try dsimp only at hSw); go_simp; try with_reducible rfl)
          try simp only [Act.put, List.setIfInBounds_toArray, List.set_cons_zero, List.set_cons_succ]
          refine wpAnyC_take (i := 13) (oi := ?o86) (v := ?v86) ?hi86 (by kernel_rfl) (by kernel_rfl) (by kernel_rfl) ?hQ86 (by kernel_rfl) (by decide) (by kernel_rfl) (Or.inl ⟨?hg86, ?hy86⟩) (by assumption) ?rest86
          case hi86 => (simp only [List.getElem?_toArray, List.getElem?_cons_zero, List.getElem?_cons_succ]; exact rfl)
          case hQ86 => exact fun _ _ _ h => h
          case hg86 => rfl
          case hy86 => (intro w' hSw; (try dsimp only at hSw); go_simp; try with_reducible rfl)
          try simp only [Act.put, List.setIfInBounds_toArray, List.set_cons_zero, List.set_cons_succ]
          refine wpAnyC_take (i := 14) (oi := ?o87) (v := ?v87) ?hi87 (by kernel_rfl) (by kernel_rfl) (by kernel_rfl) ?hQ87 (by kernel_rfl) (by decide) (by kernel_rfl) (Or.inl ⟨?hg87, ?hy87⟩) (by assumption) ?rest87
          case hi87 => (simp only [List.getElem?_toArray, List.getElem?_cons_zero, List.getElem?_cons_succ]; exact rfl)
          case hQ87 => exact fun _ _ _ h => h
          case hg87 => rfl
          case hy87 => (intro w' hSw; (try dsimp only at hSw); go_simp; try with_reducible rfl)
          try simp only [Act.put, List.setIfInBounds_toArray, List.set_cons_zero, List.set_cons_succ]
          refine wpAnyC_take (i := 15) (oi := ?o88) (v := ?v88) ?hi88 (by kernel_rfl) (by kernel_rfl) (by kernel_rfl) ?hQ88 (by kernel_rfl) (by decide) (by kernel_rfl) (Or.inl ⟨?hg88, ?hy88⟩) (by assumption) ?rest88
          case hi88 => (simp only [List.getElem?_toArray, List.getElem?_cons_zero, List.getElem?_cons_succ]; exact rfl)
          case hQ88 => exact fun _ _ _ h => h
          case hg88 => rfl
          case hy88 => (intro w' hSw; (try dsimp only at hSw); go_simp; try with_reducible rfl)
          try simp only [Act.put, List.setIfInBounds_toArray, List.set_cons_zero, List.set_cons_succ]
          refine wpAnyC_take (i := 16) (oi := ?o89) (v := ?v89) ?hi89 (by kernel_rfl) (by kernel_rfl) (by kernel_rfl) ?hQ89 (by kernel_rfl) (by decide) (by kernel_rfl) (Or.inl ⟨?hg89, ?hy89⟩) (by assumption) ?rest89
          case hi89 => (simp only [List.getElem?_toArray, List.getElem?_cons_zero, List.getElem?_cons_succ]; exact rfl)
          case hQ89 => exact fun _ _ _ h => h
          case hg89 => rfl
          case hy89 => (intro w' hSw; (try dsimp only at hSw); go_simp; try with_reducible rfl)
          try simp only [Act.put, List.setIfInBounds_toArray, List.set_cons_zero, List.set_cons_succ]
          refine wpAnyC_take (i := 17) (oi := ?o90) (v := ?v90) ?hi90 (by kernel_rfl) (by kernel_rfl) (by kernel_rfl) ?hQ90 (by kernel_rfl) (by decide) (by kernel_rfl) (Or.inl ⟨?hg90, ?hy90⟩) (by assumption) ?rest90
          case hi90 => (simp only [List.getElem?_toArray, List.getElem?_cons_zero, List.getElem?_cons_succ]; exact rfl)
          case hQ90 => exact fun _ _ _ h => h
          case hg90 => rfl
          case hy90 => (intro w' hSw; (try dsimp only at hSw); go_simp; try with_reducible rfl)
          try simp only [Act.put, List.setIfInBounds_toArray, List.set_cons_zero, List.set_cons_succ]
          refine wpAnyC_two (i := 1) (j := 10) (oi := ?o91) (oj := ?p91) ?hi91 ?hj91 (by kernel_rfl) ?step91 ?more91
          case hi91 => (simp only [List.getElem?_toArray, List.getElem?_cons_zero, List.getElem?_cons_succ]; exact rfl)
          case hj91 => (simp only [List.getElem?_toArray, List.getElem?_cons_zero, List.getElem?_cons_succ]; exact rfl)
          case step91 =>
            intro K' hK
            go_simp
            refine hK.out _ _ ?_ (fun hHeld => ?_)
            · exact fun _ => ⟨CE.out _ BA.out, XC.out _ BA.out⟩
            clear hK K' hHeld
            try simp only [Act.put, List.setIfInBounds_toArray, List.set_cons_zero, List.set_cons_succ]
            refine wpAnyC_two (i := 8) (j := 10) (oi := ?o92) (oj := ?p92) ?hi92 ?hj92 (by kernel_rfl) ?step92 ?more92
            case hi92 => (simp only [List.getElem?_toArray, List.getElem?_cons_zero, List.getElem?_cons_succ]; exact rfl)
            case hj92 => (simp only [List.getElem?_toArray, List.getElem?_cons_zero, List.getElem?_cons_succ]; exact rfl)
            case step92 =>
              intro K' hK
              (refine step_appF (by rfl) _ _ (by rfl) (by rfl) (base := wc.heap.size) (ownsRow_keep (startF wc) (fun _ _ => rfl)) (by simp) (by rfl) (S1.out.below BA.out) LT.out (flat3_one _ _) hk1 (Nat.zero_add k) ?_; intro A5 c5 w5 o5 b5 g5; have B5 := Lib.hid (BA.out.trans b5); have O5 := Lib.hid o5; have y5 := CE.out _ B5.out; have y6 := CE.out _ (B5.out.alloc (B5.out.size) (lit1 (.string sb) (.slice x1 xn x2) (.int .i64 (xn : Int)))); simp only [lit1] at y6; clear o5 b5 g5)
              refine hK.out _ _ ?_ (fun hHeld => ?_)
              · exact fun _ => ⟨CE.out _ B5.out, XC.out _ B5.out⟩
              clear hK K' hHeld
              try simp only [Act.put, List.setIfInBounds_toArray, List.set_cons_zero, List.set_cons_succ]
              refine wpAnyC_one (i := 10) (oi := ?o93) ?hi93 (by kernel_rfl) ?step93
              case hi93 => (simp only [List.getElem?_toArray, List.getElem?_cons_zero, List.getElem?_cons_succ]; exact rfl)
              intro K' hK
              go_simp
              refine hK.out _ _ ?_ (fun hHeld => ?_)
              · exact fun _ => ⟨CE.out _ (B5.out.alloc B5.out.size _), XC.out _ (B5.out.alloc B5.out.size _)⟩
              clear hK K' hHeld
              try simp only [Act.put, List.setIfInBounds_toArray, List.set_cons_zero, List.set_cons_succ]
              refine wpAnyC_one (i := 11) (oi := ?o94) ?hi94 (by kernel_rfl) ?step94
              case hi94 => (simp only [List.getElem?_toArray, List.getElem?_cons_zero, List.getElem?_cons_succ]; exact rfl)
              intro K' hK
              (refine step_appF (by rfl) _ _ (by rfl) (by rfl) (base := wc.heap.size) (own_alloc O5.out (lit1 (.string sb) (.slice x1 xn x2) (.int .i64 (xn : Int)))) (by have := B5.out.size; simp; omega) (by rfl) (lit_src (lit_new w5 (.string sb) (.slice x1 xn x2) (.int .i64 (xn : Int)))) (m := 1) rfl (lit_one _ _ _ rfl rfl rfl) hk2 rfl ?_; intro A6 c6 w6 o6 b6 _; have B6 := Lib.hid ((B5.out.alloc (B5.out.size) (lit1 (.string sb) (.slice x1 xn x2) (.int .i64 (xn : Int)))).trans b6); have O6 := Lib.hid o6; have y7 := CE.out _ B6.out; clear o6 b6)
              refine hK.out _ _ ?_ (fun hHeld => ?_)
              · exact fun _ => ⟨CE.out _ B6.out, XC.out _ B6.out⟩
              clear hK K' hHeld
              try simp only [Act.put, List.setIfInBounds_toArray, List.set_cons_zero, List.set_cons_succ]
              refine wpAnyC_one (i := 18) (oi := ?o95) ?hi95 (by kernel_rfl) ?step95
              case hi95 => (simp only [List.getElem?_toArray, List.getElem?_cons_zero, List.getElem?_cons_succ]; exact rfl)
              intro K' hK
              (refine step_appF (by rfl) _ _ (by rfl) (by rfl) (base := wc.heap.size) O6.out B6.out.size (by rfl) (S2.out.below B6.out) LD.out (flat3_one _ _) hk3 HN3.out ?_; intro A7 c7 w7 o7 b7 _; have B7 := Lib.hid (B6.out.trans b7); have O7 := Lib.hid o7; have y8 := CE.out _ B7.out; have y9 := FZ.out _ B7.out; have q8 : Hid (∀ v, (w7.setCell ⟨R, 1, none⟩ v).cell? ⟨X, 0, none⟩ = some (.string sb) ∧ (w7.setCell ⟨R, 1, none⟩ v).cell? ⟨X, 1, none⟩ = some (.slice x1 xn x2) ∧ (w7.setCell ⟨R, 1, none⟩ v).cell? ⟨X, 2, none⟩ = some (.int .i64 (xn : Int))) := Lib.hid (fun v => (XS.out w7 v B7.out)); clear o7 b7)
              refine hK.out _ _ ?_ (fun hHeld => ?_)
              · exact fun _ => ⟨CE.out _ B7.out, XC.out _ B7.out⟩
              clear hK K' hHeld
              try simp only [Act.put, List.setIfInBounds_toArray, List.set_cons_zero, List.set_cons_succ]
              refine wpAnyC_one (i := 19) (oi := ?o96) ?hi96 (by kernel_rfl) ?step96
              case hi96 => (simp only [List.getElem?_toArray, List.getElem?_cons_zero, List.getElem?_cons_succ]; exact rfl)
              intro K' hK
              go_simp
              refine hK.out _ _ ?_ (fun hHeld => ?_)
              · exact fun _ => ⟨CE.out _ B7.out, XC.out _ B7.out⟩
              clear hK K' hHeld
              try simp only [Act.put, List.setIfInBounds_toArray, List.set_cons_zero, List.set_cons_succ]
              refine wpAnyC_one (i := 20) (oi := ?o97) ?hi97 (by kernel_rfl) ?step97
              case hi97 => (simp only [List.getElem?_toArray, List.getElem?_cons_zero, List.getElem?_cons_succ]; exact rfl)
              intro K' hK
              go_simp
              refine hK.out _ _ ?_ (fun hHeld => ?_)
              · exact fun _ => ⟨CE.out _ B7.out, XC.out _ B7.out⟩
              clear hK K' hHeld
              try simp only [Act.put, List.setIfInBounds_toArray, List.set_cons_zero, List.set_cons_succ]
              refine wpAnyC_one (i := 21) (oi := ?o98) ?hi98 (by kernel_rfl) ?step98
              case hi98 => (simp only [List.getElem?_toArray, List.getElem?_cons_zero, List.getElem?_cons_succ]; exact rfl)
              intro K' hK
              go_simp
              refine hK.out _ _ ?_ (fun hHeld => ?_)
              · exact fun h => (by cases h)
              clear hK K' hHeld
              try simp only [Act.put, List.setIfInBounds_toArray, List.set_cons_zero, List.set_cons_succ]
              refine wpAnyC_done (by kernel_rfl) ?_ _
              all_goals (go_wp2_with fail; go_meet; exact ⟨w7, A7, c7, rfl, rfl, B7, O7⟩)
            case more92 =>
              intro K' hK
              go_simp
              refine hK.out _ _ ?_ (fun hHeld => ?_)
              · exact fun _ => ⟨CE.out _ BAB.out, XC.out _ BAB.out⟩
              clear hK K' hHeld
              try simp only [Act.put, List.setIfInBounds_toArray, List.set_cons_zero, List.set_cons_succ]
              refine wpAnyC_one (i := 8) (oi := ?o99) ?hi99 (by kernel_rfl) ?step99
              case hi99 => (simp only [List.getElem?_toArray, List.getElem?_cons_zero, List.getElem?_cons_succ]; exact rfl)
              intro K' hK
              (refine step_appF (by rfl) _ _ (by rfl) (by rfl) (base := wc.heap.size) (start_ab wc (lit1 (.string sb) (.slice x1 xn x2) (.int .i64 (xn : Int)))) BAB.out.size (by rfl) (S1.out.below BAB.out) LT.out (flat3_one _ _) hk1 (Nat.zero_add k) ?_; intro A5 c5 w5 o5 b5 g5; have B5 := Lib.hid (BAB.out.trans b5); have O5 := Lib.hid o5; have N5 := Lib.hid (lit_grown NAB.out g5 (by omega)); have y5 := CE.out _ B5.out; clear o5 b5 g5)
              refine hK.out _ _ ?_ (fun hHeld => ?_)
              · exact fun _ => ⟨CE.out _ B5.out, XC.out _ B5.out⟩
              clear hK K' hHeld
              try simp only [Act.put, List.setIfInBounds_toArray, List.set_cons_zero, List.set_cons_succ]
              refine wpAnyC_one (i := 11) (oi := ?o100) ?hi100 (by kernel_rfl) ?step100
              case hi100 => (simp only [List.getElem?_toArray, List.getElem?_cons_zero, List.getElem?_cons_succ]; exact rfl)
              intro K' hK
              (refine step_appF (by rfl) _ _ (by rfl) (by rfl) (base := wc.heap.size) O5.out B5.out.size (by rfl) (lit_src N5.out) (m := 1) rfl (lit_one _ _ _ rfl rfl rfl) hk2 rfl ?_; intro A6 c6 w6 o6 b6 _; have B6 := Lib.hid (B5.out.trans b6); have O6 := Lib.hid o6; have y7 := CE.out _ B6.out; clear o6 b6)
              refine hK.out _ _ ?_ (fun hHeld => ?_)
              · exact fun _ => ⟨CE.out _ B6.out, XC.out _ B6.out⟩
              clear hK K' hHeld
              try simp only [Act.put, List.setIfInBounds_toArray, List.set_cons_zero, List.set_cons_succ]
              refine wpAnyC_one (i := 18) (oi := ?o101) ?hi101 (by kernel_rfl) ?step101
              case hi101 => (simp only [List.getElem?_toArray, List.getElem?_cons_zero, List.getElem?_cons_succ]; exact rfl)
              intro K' hK
              (refine step_appF (by rfl) _ _ (by rfl) (by rfl) (base := wc.heap.size) O6.out B6.out.size (by rfl) (S2.out.below B6.out) LD.out (flat3_one _ _) hk3 HN3.out ?_; intro A7 c7 w7 o7 b7 _; have B7 := Lib.hid (B6.out.trans b7); have O7 := Lib.hid o7; have y8 := CE.out _ B7.out; have y9 := FZ.out _ B7.out; have q8 : Hid (∀ v, (w7.setCell ⟨R, 1, none⟩ v).cell? ⟨X, 0, none⟩ = some (.string sb) ∧ (w7.setCell ⟨R, 1, none⟩ v).cell? ⟨X, 1, none⟩ = some (.slice x1 xn x2) ∧ (w7.setCell ⟨R, 1, none⟩ v).cell? ⟨X, 2, none⟩ = some (.int .i64 (xn : Int))) := Lib.hid (fun v => (XS.out w7 v B7.out)); clear o7 b7)
              refine hK.out _ _ ?_ (fun hHeld => ?_)
              · exact fun _ => ⟨CE.out _ B7.out, XC.out _ B7.out⟩
              clear hK K' hHeld
              try simp only [Act.put, List.setIfInBounds_toArray, List.set_cons_zero, List.set_cons_succ]
              refine wpAnyC_one (i := 19) (oi := ?o102) ?hi102 (by kernel_rfl) ?step102
              case hi102 => (simp only [List.getElem?_toArray, List.getElem?_cons_zero, List.getElem?_cons_succ]; exact rfl)
              intro K' hK
              go_simp
              refine hK.out _ _ ?_ (fun hHeld => ?_)
              · exact fun _ => ⟨CE.out _ B7.out, XC.out _ B7.out⟩
              clear hK K' hHeld
              try simp only [Act.put, List.setIfInBounds_toArray, List.set_cons_zero, List.set_cons_succ]
              refine wpAnyC_one (i := 20) (oi := ?o103) ?hi103 (by kernel_rfl) ?step103
              case hi103 => (simp only [List.getElem?_toArray, List.getElem?_cons_zero, List.getElem?_cons_succ]; exact rfl)
              intro K' hK
              go_simp
              refine hK.out _ _ ?_ (fun hHeld => ?_)
              · exact fun _ => ⟨CE.out _ B7.out, XC.out _ B7.out⟩
              clear hK K' hHeld
              try simp only [Act.put, List.setIfInBounds_toArray, List.set_cons_zero, List.set_cons_succ]
              refine wpAnyC_one (i := 21) (oi := ?o104) ?hi104 (by kernel_rfl) ?step104
              case hi104 => (simp only [List.getElem?_toArray, List.getElem?_cons_zero, List.getElem?_cons_succ]; exact rfl)
              intro K' hK
              go_simp
              refine hK.out _ _ ?_ (fun hHeld => ?_)
              · exact fun h => (by cases h)
              clear hK K' hHeld
              try simp only [Act.put, List.setIfInBounds_toArray, List.set_cons_zero, List.set_cons_succ]
              refine wpAnyC_done (by kernel_rfl) ?_ _
              all_goals (go_wp2_with fail; go_meet; exact ⟨w7, A7, c7, rfl, rfl, B7, O7⟩)
          case more91 =>
            intro K' hK
            go_simp
            refine hK.out _ _ ?_ (fun hHeld => ?_)
            · exact fun _ => ⟨CE.out _ BB.out, XC.out _ BB.out⟩
            clear hK K' hHeld
            try simp only [Act.put, List.setIfInBounds_toArray, List.set_cons_zero, List.set_cons_succ]
            refine wpAnyC_one (i := 1) (oi := ?o105) ?hi105 (by kernel_rfl) ?step105
            case hi105 => (simp only [List.getElem?_toArray, List.getElem?_cons_zero, List.getElem?_cons_succ]; exact rfl)
            intro K' hK
            go_simp
            refine hK.out _ _ ?_ (fun hHeld => ?_)
            · exact fun _ => ⟨CE.out _ BBA.out, XC.out _ BBA.out⟩
            clear hK K' hHeld
            try simp only [Act.put, List.setIfInBounds_toArray, List.set_cons_zero, List.set_cons_succ]
            refine wpAnyC_one (i := 8) (oi := ?o106) ?hi106 (by kernel_rfl) ?step106
            case hi106 => (simp only [List.getElem?_toArray, List.getElem?_cons_zero, List.getElem?_cons_succ]; exact rfl)
            intro K' hK
            (refine step_appF (by rfl) _ _ (by rfl) (by rfl) (base := wc.heap.size) (start_ba wc (lit1 (.string sb) (.slice x1 xn x2) (.int .i64 (xn : Int)))) BBA.out.size (by rfl) (S1.out.below BBA.out) LT.out (flat3_one _ _) hk1 (Nat.zero_add k) ?_; intro A5 c5 w5 o5 b5 g5; have B5 := Lib.hid (BBA.out.trans b5); have O5 := Lib.hid o5; have N5 := Lib.hid (lit_grown NBA.out g5 (by omega)); have y5 := CE.out _ B5.out; clear o5 b5 g5)
            refine hK.out _ _ ?_ (fun hHeld => ?_)
            · exact fun _ => ⟨CE.out _ B5.out, XC.out _ B5.out⟩
            clear hK K' hHeld
            try simp only [Act.put, List.setIfInBounds_toArray, List.set_cons_zero, List.set_cons_succ]
            refine wpAnyC_one (i := 11) (oi := ?o107) ?hi107 (by kernel_rfl) ?step107
            case hi107 => (simp only [List.getElem?_toArray, List.getElem?_cons_zero, List.getElem?_cons_succ]; exact rfl)
            intro K' hK
            (refine step_appF (by rfl) _ _ (by rfl) (by rfl) (base := wc.heap.size) O5.out B5.out.size (by rfl) (lit_src N5.out) (m := 1) rfl (lit_one _ _ _ rfl rfl rfl) hk2 rfl ?_; intro A6 c6 w6 o6 b6 _; have B6 := Lib.hid (B5.out.trans b6); have O6 := Lib.hid o6; have y7 := CE.out _ B6.out; clear o6 b6)
            refine hK.out _ _ ?_ (fun hHeld => ?_)
            · exact fun _ => ⟨CE.out _ B6.out, XC.out _ B6.out⟩
            clear hK K' hHeld
            try simp only [Act.put, List.setIfInBounds_toArray, List.set_cons_zero, List.set_cons_succ]
            refine wpAnyC_one (i := 18) (oi := ?o108) ?hi108 (by kernel_rfl) ?step108
            case hi108 => (simp only [List.getElem?_toArray, List.getElem?_cons_zero, List.getElem?_cons_succ]; exact rfl)
            intro K' hK
            (refine step_appF (by rfl) _ _ (by rfl) (by rfl) (base := wc.heap.size) O6.out B6.out.size (by rfl) (S2.out.below B6.out) LD.out (flat3_one _ _) hk3 HN3.out ?_; intro A7 c7 w7 o7 b7 _; have B7 := Lib.hid (B6.out.trans b7); have O7 := Lib.hid o7; have y8 := CE.out _ B7.out; have y9 := FZ.out _ B7.out; have q8 : Hid (∀ v, (w7.setCell ⟨R, 1, none⟩ v).cell? ⟨X, 0, none⟩ = some (.string sb) ∧ (w7.setCell ⟨R, 1, none⟩ v).cell? ⟨X, 1, none⟩ = some (.slice x1 xn x2) ∧ (w7.setCell ⟨R, 1, none⟩ v).cell? ⟨X, 2, none⟩ = some (.int .i64 (xn : Int))) := Lib.hid (fun v => (XS.out w7 v B7.out)); clear o7 b7)
            refine hK.out _ _ ?_ (fun hHeld => ?_)
            · exact fun _ => ⟨CE.out _ B7.out, XC.out _ B7.out⟩
            clear hK K' hHeld
            try simp only [Act.put, List.setIfInBounds_toArray, List.set_cons_zero, List.set_cons_succ]
            refine wpAnyC_one (i := 19) (oi := ?o109) ?hi109 (by kernel_rfl) ?step109
            case hi109 => (simp only [List.getElem?_toArray, List.getElem?_cons_zero, List.getElem?_cons_succ]; exact rfl)
            intro K' hK
            go_simp
            refine hK.out _ _ ?_ (fun hHeld => ?_)
            · exact fun _ => ⟨CE.out _ B7.out, XC.out _ B7.out⟩
            clear hK K' hHeld
            try simp only [Act.put, List.setIfInBounds_toArray, List.set_cons_zero, List.set_cons_succ]
            refine wpAnyC_one (i := 20) (oi := ?o110) ?hi110 (by kernel_rfl) ?step110
            case hi110 => (simp only [List.getElem?_toArray, List.getElem?_cons_zero, List.getElem?_cons_succ]; exact rfl)
            intro K' hK
            go_simp
            refine hK.out _ _ ?_ (fun hHeld => ?_)
            · exact fun _ => ⟨CE.out _ B7.out, XC.out _ B7.out⟩
            clear hK K' hHeld
            try simp only [Act.put, List.setIfInBounds_toArray, List.set_cons_zero, List.set_cons_succ]
            refine wpAnyC_one (i := 21) (oi := ?o111) ?hi111 (by kernel_rfl) ?step111
            case hi111 => (simp only [List.getElem?_toArray, List.getElem?_cons_zero, List.getElem?_cons_succ]; exact rfl)
            intro K' hK
            go_simp
            refine hK.out _ _ ?_ (fun hHeld => ?_)
            · exact fun h => (by cases h)
            clear hK K' hHeld
            try simp only [Act.put, List.setIfInBounds_toArray, List.set_cons_zero, List.set_cons_succ]
            refine wpAnyC_done (by kernel_rfl) ?_ _
            all_goals (go_wp2_with fail; go_meet; exact ⟨w7, A7, c7, rfl, rfl, B7, O7⟩)
        case rest =>
          obtain ⟨w7, A7, c7, rfl, rfl, B7, O7⟩ := hcut
          have NB : Hid (find (bs sb) fs2 = none) := Lib.hid (by rw [FS2.out]; exact find_del_same)
          obtain ⟨F2, hF2⟩ : ∃ F2 : F, F2 = ⟨bs sb, f.zs, f.zs.length⟩ := ⟨_, rfl⟩
          have FE := Lib.hid hF2
          have FNM : Hid (F2.nm = bs sb) := Lib.hid (by rw [hF2])
          clear hF2
          have FL : Hid (ins F2 fs2 = fs2.take k ++ F2 :: fs2.drop k) := Lib.hid (ins_at P5.out.rs.inv.sorted (f := F2) (by rw [FNM.out]; exact NB.out) (by have := HKL.out; rw [LN2.out] at this; exact this) (by rw [FNM.out]; exact HB.out) (by rw [FNM.out]; exact HX.out))
          have SWL : Hid (swapL s (bs sa) (bs sb) = ins F2 fs2) := Lib.hid (by
            unfold swapL put
            rw [EF.out, ← HF.out, FE.out, FS2.out, FS1.out])
          have FN : Hid (∀ f' ∈ fs2, f'.nm ≠ bs sb) := Lib.hid (St.find_none NB.out)
          have FM : Hid (∀ f' ∈ ins F2 fs2, f' = F2 ∨ (f' ∈ fs2 ∧ f'.nm ≠ bs sb)) := Lib.hid fun f' hf => by
            rcases mem_ins.1 hf with h1 | h1
            · exact .inl h1
            · exact .inr ⟨h1, FN.out f' h1⟩
          have IV : Hid (Inv { s with fs := ins F2 fs2, fuse := s.fuse - 1 }) := Lib.hid (by rw [← SWL.out]; exact IVS.out)
          have FIN : Hid (f ∈ s.fs) := Lib.hid (by rw [HF.out]; exact List.getElem_mem HK.out)
          have GIN : Hid (∀ g ∈ fs2, g ∈ s.fs ∧ g.nm ≠ f.nm) := Lib.hid fun g hg => by
            rw [FS2.out, FS1.out] at hg
            have h1 := mem_del.1 (mem_del.1 hg).1
            exact ⟨h1.1, by rw [HF.out, NMA.out]; exact h1.2⟩
          have NR := P5.out.newrow2 (w6 := w7) (l := ins F2 fs2) (Ad' := turnAd Ad2 (bs sb) (x1, x2)) (A6 := A7) (n6 := n3) (c6 := c7) B7.out
            (by rw [← HN3.out, length_ins, LN2.out]; have := HKL.out; rw [LN2.out] at this; omega)
            (by
              have h1 := O7.out
              rw [FL.out, flat3_app, flat3_cons]
              rw [flat3_turn Ad2 _ _ _ fun g hg => FN.out g (List.mem_of_mem_take hg), flat3_turn Ad2 _ _ _ fun g hg => FN.out g (List.mem_of_mem_drop hg)]
              rw [FE.out]
              rw [show (turnAd Ad2 (bs sb) (x1, x2)) (F.mk (bs sb) f.zs f.zs.length).nm = (x1, x2) from turnAd_at _ _ _, mkB_bs, ← XN.out]
              simpa using h1)
            IV.out
            (fun f' hf => by
              rcases FM.out f' hf with rfl | ⟨h1, h2⟩
              · rw [FNM.out, turnAd_at, FE.out]
                have h := P.out.rs.rows f FIN.out
                rw [← X1.out, ← X2.out] at h
                exact h.keep fun a ha => KP5.out _ (P.out.lt _ (P.out.ownR f FIN.out a (by rw [← X1.out]; exact ha))) (P.out.row_ne FIN.out (by rw [← X1.out]; exact ha)).1
              · rw [turnAd_ne _ _ h2]; exact P5.out.rs.rows f' h1)
            (fun f' hf a ha => by
              rcases FM.out f' hf with rfl | ⟨h1, h2⟩
              · rw [FNM.out, turnAd_at] at ha
                exact SUB5.out _ (P.out.ownR f FIN.out a (by rw [← X1.out]; exact ha))
              · rw [turnAd_ne _ _ h2] at ha; exact P5.out.ownR f' h1 a ha)
            (fun f' hf g hg hne a b ha hb => by
              rcases FM.out f' hf with rfl | ⟨h1, h2⟩
              · rcases FM.out g hg with rfl | ⟨h3, h4⟩
                · exact absurd rfl hne
                · rw [FNM.out, turnAd_at] at ha
                  rw [turnAd_ne _ _ h4] at hb
                  exact P.out.apart f FIN.out g (GIN.out g h3).1 (fun e => (GIN.out g h3).2 e.symm) a b (by rw [← X1.out]; exact ha) hb
              · rcases FM.out g hg with rfl | ⟨h3, h4⟩
                · rw [turnAd_ne _ _ h2] at ha
                  rw [FNM.out, turnAd_at] at hb
                  exact P.out.apart f' (GIN.out f' h1).1 f FIN.out (GIN.out f' h1).2 a b ha (by rw [← X1.out]; exact hb)
                · rw [turnAd_ne _ _ h2] at ha
                  rw [turnAd_ne _ _ h4] at hb
                  exact P5.out.apart f' h1 g h3 hne a b ha hb)
          have N1 := Lib.hid NR.1
          have N2 := Lib.hid NR.2.1
          clear NR
          go_wp2
          go_ret
          refine ⟨rfl, ?_⟩
          rw [SWL.out]
          exact RLeaves.trans (ST.out.trans ST5.out) ⟨_, ⟨rf2, rk2, _, _, c7, ka2, kc2, N1.out, B.out⟩, N2.out⟩
end Go.Proofs.Ytmahbcpkilegpaa
