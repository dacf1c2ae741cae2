/-
  The law TopoOrders walked.
-/
import Derived.Test.YtgeefkfolejbnaaToAwake
namespace Go.Proofs.Ytgeefkfolejbnaa
open Go.RowKit
theorem To.cyc16 (n : Int) (es : Gr.EI) : (Gr.cycleI n es).length ≤ 16 := by
  unfold Gr.cycleI
  split
  · next h =>
    have g := Gr.goodV_iff.1 h
    rw [Gr.ints_len]
    have h1 := (Gr.cycle_spec g.low).2
    have := g.n16
    omega
  · simp
theorem To.mx_snocI (f : Nat → Nat) (l : List Nat) (a : Nat) (v : Int) (hv : v = (To.mx f l : Int) - 1) : (To.mx f (l ++ [a]) : Int) - 1 = if v < (f a : Int) then (f a : Int) else v := by
  rw [To.mx_snoc]
  split <;> omega
set_option maxRecDepth 100000 in
set_option maxHeartbeats 8000000 in
theorem orders_walk (A : Option Addr) (es : List (Int × Int)) (cap : Nat) (n : Int) (w : World) (hl : es.length ≤ 9223372036854775807) (_hcap : es.length ≤ cap) (h : Edg w w.heap.size A es) :
    Calls Try.prog 5 #[.agg #[.int .i64 n, .slice A es.length cap]] w (BoolG w true) := by
  have AW : Hid (∀ W, Calls Try.prog 8 #[] W (BoolG W true)) := Lib.hid awake_any
  have GD : Hid (∀ W, Below w.heap.size w W → Calls Try.prog 21 #[.agg #[.int .i64 n, .slice A es.length cap]] W (BoolG W (Gr.goodV n es))) := Lib.hid fun W hW => good_any n A es cap hl W (h.on hW)
  have CE : Hid (∀ W, Below w.heap.size w W → Calls Try.prog 22 #[.agg #[.int .i64 n, .slice A es.length cap]] W (ListG W (Gr.cycleI n es))) := Lib.hid fun W hW => cycle_any n A es cap hl W (h.on hW)
  have AE : Hid (∀ W (x : Int), Below w.heap.size w W → Calls Try.prog 23 #[.agg #[.int .i64 n, .slice A es.length cap], .int .i64 x] W (ListG W (Gr.aheadI n es x))) := Lib.hid fun W x hW => ahead_any n A es cap x hl W (h.on hW)
  have OE : Hid (∀ W, Below w.heap.size w W → Calls Try.prog 9 #[.agg #[.int .i64 n, .slice A es.length cap]] W (OptG W (To.orderI n es))) := Lib.hid fun W hW => order_any n A es cap hl W (h.on hW)
  have LE : Hid (∀ W, Below w.heap.size w W → Calls Try.prog 10 #[.agg #[.int .i64 n, .slice A es.length cap]] W (OptG W (To.levelsI n es))) := Lib.hid fun W hW => levels_any n A es cap hl W (h.on hW)
  have IE : Hid (∀ W A2 ls cap2, ls.length ≤ 1000000 → ls.length ≤ cap2 → Below w.heap.size w W → Zs W W.heap.size A2 ls → Calls Try.prog 14 #[.agg #[.int .i64 n, .slice A es.length cap], .slice A2 ls.length cap2] W (BoolG W (To.isI n es ls))) := Lib.hid fun W A2 ls cap2 h1 h2 hW hz => is_any n A es cap A2 ls cap2 hl h1 h2 W (h.on hW) hz
  generalize es.length = l at *
  obtain ⟨W1, hW1⟩ : ∃ W1, W1 = w.alloc (.cells #[.int .i64 n, .slice A l cap] 27) := ⟨_, rfl⟩
  have P1 : Hid (W1.heap[w.heap.size]? = some (.cells #[.int .i64 n, .slice A l cap] 27 (0, 0))) := Lib.hid (by rw [hW1]; exact heap_alloc_new ..)
  have B1 : Hid (Below w.heap.size w W1) := Lib.hid (by rw [hW1]; exact (Below.refl _ _).alloc (Nat.le_refl _) _)
  have PX : Hid (∀ W, Below W1.heap.size W1 W → (W.cell? ⟨w.heap.size, 0, none⟩ = some (.int .i64 n) ∧ W.cell? ⟨w.heap.size, 1, none⟩ = some (.slice A l cap)) ∧ Below w.heap.size w W) := Lib.hid fun W hW =>
    ⟨(obG ((hW.block _ (lt_of_block P1.out)).trans P1.out)).1, B1.out.trans (hW.mono B1.out.size)⟩
  clear h hl _hcap
  go_enter Try.func5, Try.ntmps5
  go_wp2_with fail
  rw [← hW1]
  clear hW1
  (with_reducible refine (AW.out _).mono ?_); rintro e w2 ⟨rfl, b2⟩
  obtain ⟨⟨x0, x1⟩, BB⟩ := PX.out _ b2.out
  have BB := Lib.hid BB
  have D2 := Lib.hid b2.out
  clear b2
  by_cases h60 : 60 < l
  · have h60' : (60 : Int) < (l : Int) := by omega
    go_wp2
    go_ret
    exact ⟨rfl, BB⟩
  have h60' : (l : Int) ≤ 60 := by omega
  cases hg : Gr.goodV n es with
  | false =>
    rw [hg] at GD
    clear hg h60
    go_wp2_with fail
    (with_reducible refine (GD.out _ BB.out).mono ?_); rintro e w3 ⟨rfl, b3⟩
    go_wp2
    go_ret
    exact ⟨rfl, Lib.hid (BB.out.trans (b3.out.mono BB.out.size))⟩
  | true =>
    rw [hg] at GD
    have G := Gr.goodV_iff.1 hg
    obtain ⟨N, hN⟩ : ∃ N : Nat, n = (N : Int) := ⟨n.toNat, by have := G.n0; omega⟩
    have hN16 : N ≤ 16 := by have := G.n16; omega
    subst hN
    have CY := To.ok_cycle G
    have GH := Lib.hid G
    clear hg h60 G
    go_wp2_with fail
    (with_reducible refine (GD.out _ BB.out).mono ?_); rintro e w3 ⟨rfl, b3⟩
    have D3 : Hid (Below W1.heap.size W1 w3) := Lib.hid (D2.out.trans (b3.out.mono D2.out.size))
    clear x0 x1 BB D2 b3
    obtain ⟨⟨x0, x1⟩, BB⟩ := PX.out _ D3.out
    have BB := Lib.hid BB
    cases ho : To.okI (N : Int) es with
    | false =>
      have O1 : Hid (∀ W, Below w.heap.size w W → Calls Try.prog 9 #[.agg #[.int .i64 (N : Int), .slice A l cap]] W (OptN W)) := Lib.hid fun W hW => (OE.out W hW).mono fun e w' h => by rw [To.orderI_no ho] at h; exact h.no
      have L1 : Hid (∀ W, Below w.heap.size w W → Calls Try.prog 10 #[.agg #[.int .i64 (N : Int), .slice A l cap]] W (OptN W)) := Lib.hid fun W hW => (LE.out W hW).mono fun e w' h => by rw [To.levelsI_no ho] at h; exact h.no
      rw [ho] at CY
      obtain ⟨c, hc⟩ : ∃ c, c = Gr.cycleI (N : Int) es := ⟨_, rfl⟩
      rw [← hc] at CY CE
      have hc0 : 0 < c.length := by cases c with
        | nil => cases CY
        | cons a r => simp
      obtain ⟨lc, hlc⟩ : ∃ lc, lc = c.length := ⟨_, rfl⟩
      have LC := Lib.hid hlc
      have h16 : lc ≤ 16 := by rw [hlc, hc]; exact To.cyc16 _ _
      rw [← hlc] at hc0
      clear ho CY hc hlc
      have hd1 : (lc == 0) = false := by rw [beq_eq_false_iff_ne]; omega
      have hd2 : ((lc : Int) == 0) = false := by rw [beq_eq_false_iff_ne]; omega
      go_wp2_with fail
      (with_reducible refine (O1.out _ BB.out).mono ?_); rintro e w4 ⟨A4, c4, rfl, b4⟩
      have D4 : Hid (Below W1.heap.size W1 w4) := Lib.hid (D3.out.trans (b4.out.mono D3.out.size))
      clear x0 x1 BB b4
      obtain ⟨⟨x0, x1⟩, BB⟩ := PX.out _ D4.out
      have BB := Lib.hid BB
      go_wp2_with fail
      (with_reducible refine (L1.out _ BB.out).mono ?_); rintro e w5 ⟨A5, c5, rfl, b5⟩
      have D5 : Hid (Below W1.heap.size W1 w5) := Lib.hid (D4.out.trans (b5.out.mono D4.out.size))
      clear x0 x1 BB b5
      obtain ⟨⟨x0, x1⟩, BB⟩ := PX.out _ D5.out
      have BB := Lib.hid BB
      go_wp2_with fail
      (with_reducible refine (CE.out _ BB.out).mono ?_); rintro e w6 ⟨A6, c6, rfl, o6, b6⟩
      rw [← LC.out]
      go_wp2
      go_ret
      exact ⟨rfl, Lib.hid (BB.out.trans (b6.out.mono BB.out.size))⟩
    | true =>
      obtain ⟨o, hoV, hoI, HO0, hlen⟩ := To.orderI_yes ho
      obtain ⟨hG, hT⟩ := To.okI_iff.1 ho
      rw [Int.toNat_natCast] at HO0 hlen
      obtain ⟨lv, hlv⟩ : ∃ lv, lv = (List.range N).map (To.lev (Gr.nat es) N) := ⟨_, rfl⟩
      have hll : lv.length = N := by rw [hlv, List.length_map, List.length_range]
      have hlow := hG.low
      rw [Int.toNat_natCast] at hlow
      have O1 : Hid (∀ W, Below w.heap.size w W → Calls Try.prog 9 #[.agg #[.int .i64 (N : Int), .slice A l cap]] W (OptC W (Gr.ints o) N)) := Lib.hid fun W hW => (OE.out W hW).mono fun e w' h => by rw [hoI] at h; exact h.full (by rw [Gr.ints_len, hlen])
      have L1 : Hid (∀ W, Below w.heap.size w W → Calls Try.prog 10 #[.agg #[.int .i64 (N : Int), .slice A l cap]] W (OptY W (Gr.ints lv) N)) := Lib.hid fun W hW => (LE.out W hW).mono fun e w' h => by rw [To.levelsI_yes ho, Int.toNat_natCast, ← hlv] at h; exact h.yes (by rw [Gr.ints_len, hll])
      have C1 : Hid (∀ W, Below w.heap.size w W → Calls Try.prog 22 #[.agg #[.int .i64 (N : Int), .slice A l cap]] W (ListG W [])) := Lib.hid fun W hW => by
        have := CE.out W hW
        rw [ho] at CY
        rwa [List.isEmpty_iff.1 CY.symm] at this
      have I1 : Hid (∀ W A2 cap2, N ≤ cap2 → Below w.heap.size w W → Zs W W.heap.size A2 (Gr.ints o) → Calls Try.prog 14 #[.agg #[.int .i64 (N : Int), .slice A l cap], .slice A2 N cap2] W (BoolG W true)) := Lib.hid fun W A2 cap2 hc hW hz => by
        have := IE.out W A2 (Gr.ints o) cap2 (by rw [Gr.ints_len, hlen]; omega) (by rw [Gr.ints_len, hlen]; exact hc) hW hz
        rwa [To.is_order ho (by rw [Int.toNat_natCast]; exact HO0) (by rw [Int.toNat_natCast]; exact hlen), Gr.ints_len, hlen] at this
      have LV : Hid (∀ k, k < N → (Gr.ints lv).getD k 0 = (To.lev (Gr.nat es) N k : Int) ∧ To.lev (Gr.nat es) N k < N) := Lib.hid fun k hk => ⟨by
        rw [Gr.ints_get, hlv, List.getD_eq_getElem?_getD, List.getElem?_map, List.getElem?_range hk]; rfl, To.lev_lt hlow hT hk⟩
      have LQ : Hid (∀ k, To.lev (Gr.nat es) N k = To.mx (To.lev (Gr.nat es) N) (Gr.aheadV (Gr.nat es) N k)) := Lib.hid fun k => To.lev_eq hlow hT k
      have AP : Hid (∀ k a, a ∈ Gr.aheadV (Gr.nat es) N k → a < N) := Lib.hid fun k a ha => (hlow _ ((Gr.mem_ahead hlow).1 ha)).1
      have LL : Hid ((Gr.ints lv).length = N) := Lib.hid (by rw [Gr.ints_len, hll])
      clear ho CY hoV hoI HO0 hlen hG hT hlv hll hlow OE LE CE IE
      go_wp2_with fail
      (with_reducible refine (O1.out _ BB.out).mono ?_); rintro e w4 ⟨A4, c4, rfl, k4, z4, b4⟩
      have D4 : Hid (Below W1.heap.size W1 w4) := Lib.hid (D3.out.trans (b4.out.mono D3.out.size))
      clear x0 x1 BB b4
      obtain ⟨⟨x0, x1⟩, BB⟩ := PX.out _ D4.out
      have BB := Lib.hid BB
      go_wp2_with fail
      (with_reducible refine (L1.out _ BB.out).mono ?_); rintro e w5 ⟨A5, c5, rfl, z5, b5⟩
      have D5 : Hid (Below W1.heap.size W1 w5) := Lib.hid (D4.out.trans (b5.out.mono D4.out.size))
      have Z5 : Hid (Zs w5 w5.heap.size A4 (Gr.ints o)) := Lib.hid (z4.out.on b5.out)
      clear x0 x1 BB b5 z4
      obtain ⟨⟨x0, x1⟩, BB⟩ := PX.out _ D5.out
      have BB := Lib.hid BB
      go_wp2_with fail
      (with_reducible refine (C1.out _ BB.out).mono ?_); rintro e w6 ⟨A6, c6, rfl, -, b6⟩
      have D6 : Hid (Below W1.heap.size W1 w6) := Lib.hid (D5.out.trans (b6.out.mono D5.out.size))
      have Z6 : Hid (Zs w6 w6.heap.size A4 (Gr.ints o)) := Lib.hid (Z5.out.on b6.out)
      have Y6 : Hid (Zs w6 w6.heap.size A5 (Gr.ints lv)) := Lib.hid (z5.out.on b6.out)
      clear x0 x1 BB b6 z5 Z5
      obtain ⟨⟨x0, x1⟩, BB⟩ := PX.out _ D6.out
      have BB := Lib.hid BB
      go_wp2_with fail
      (with_reducible refine (I1.out _ _ _ k4.out BB.out Z6.out).mono ?_); rintro e w7 ⟨rfl, b7⟩
      have D7 : Hid (Below W1.heap.size W1 w7) := Lib.hid (D6.out.trans (b7.out.mono D6.out.size))
      have Y7 : Hid (Zs w7 w7.heap.size A5 (Gr.ints lv)) := Lib.hid (Y6.out.on b7.out)
      clear x0 x1 BB b7 Y6 Z6 O1 L1 C1 I1
      obtain ⟨⟨x0, x1⟩, -⟩ := PX.out _ D7.out
      go_wp2_with fail
      clear x0 x1
      go_loopw [7] (fun iv wr => ∃ k : Nat, k ≤ N ∧ iv = .int .i64 k ∧ Hid (Below w7.heap.size w7 wr)) (fun iv _ => N - (intOf iv).toNat)
      case atStart => exact ⟨0, Nat.zero_le _, rfl, Lib.hid (Below.refl _ _)⟩
      case round =>
        obtain ⟨k, hk, rfl, HB⟩ := hrel
        have D8 : Hid (Below W1.heap.size W1 wr) := Lib.hid (D7.out.trans (HB.out.mono D7.out.size))
        obtain ⟨⟨x0, x1⟩, BB⟩ := PX.out _ D8.out
        have BB := Lib.hid BB
        by_cases hlt : k < N
        · have hlt' : (k : Int) < (N : Int) := by omega
          obtain ⟨av, hav⟩ : ∃ av, av = Gr.aheadV (Gr.nat es) N k := ⟨_, rfl⟩
          obtain ⟨lz, hlz⟩ : ∃ lz, lz = av.length := ⟨_, rfl⟩
          have A1 : Hid (Calls Try.prog 23 #[.agg #[.int .i64 (N : Int), .slice A l cap], .int .i64 (k : Int)] wr (ListG wr (Gr.ints av))) := Lib.hid (by
            have := AE.out wr (k : Int) BB.out
            rwa [Gr.aheadI_eq GH.out, ← hav] at this)
          have LK := Lib.hid (LQ.out k)
          rw [← hav] at LK
          have AK : Hid (∀ a ∈ av, a < N) := Lib.hid fun a ha => AP.out k a (by rw [← hav]; exact ha)
          have h16 : lz ≤ 16 := by rw [hlz, hav]; exact Nat.le_trans (To.ahead_len _ _ _) hN16
          have LZ := Lib.hid hlz
          obtain ⟨hk1, hk2⟩ := LV.out k hlt
          have HK1 := Lib.hid hk1
          clear hav hlz hk1
          go_wp2_with fail
          (with_reducible refine A1.out.mono ?_); rintro e w9 ⟨A9, c9, rfl, o9, b9⟩
          rw [Gr.ints_len, ← LZ.out]
          have Z9 : Hid (Zs w9 w9.heap.size A9 (Gr.ints av)) := Lib.hid o9.out.zs
          have Y9 : Hid (Zs w9 w9.heap.size A5 (Gr.ints lv)) := Lib.hid (Y7.out.on (HB.out.trans (b9.out.mono HB.out.size)))
          have D9 : Hid (Below w7.heap.size w7 w9) := Lib.hid (HB.out.trans (b9.out.mono HB.out.size))
          clear o9 b9 A1 x0 x1
          go_wp2_with fail
          go_loopw [9, 10] (fun mv iv wk => ∃ (j : Nat) (v : Int), j ≤ lz ∧ iv = .int .i64 j ∧ mv = .int .i64 v ∧ Hid (v = (To.mx (To.lev (Gr.nat es) N) (av.take j) : Int) - 1) ∧ Hid (v ≤ 16) ∧ Hid (Below w9.heap.size w9 wk)) (fun _ iv _ => lz - (intOf iv).toNat)
          case atStart => exact ⟨0, _, Nat.zero_le _, rfl, rfl, Lib.hid rfl, Lib.hid (by decide), Lib.hid (Below.refl _ _)⟩
          case round =>
            obtain ⟨j, v, hj, rfl, rfl, HV, HV16, HB9⟩ := hrel
            have hv0 : -1 ≤ v := by have := HV.out; omega
            have hv1 : v ≤ 16 := HV16.out
            by_cases hlj : j < lz
            · have hlj' : (j : Int) < (lz : Int) := by omega
              have hja : j < av.length := by rw [← LZ.out]; exact hlj
              obtain ⟨b9, o9, y, rfl, hb9, hc9, hy, hy0, hy1⟩ := (Z9.out.below HB9.out).at_ (k := j) (by rw [Gr.ints_len]; exact hja)
              obtain ⟨a, ha⟩ : ∃ a, a = av.getD j 0 := ⟨_, rfl⟩
              obtain rfl : y = (a : Int) := by rw [← hy.out, Gr.ints_get, ha]
              have haN : a < N := AK.out a (by rw [ha]; exact getD_mem hja)
              have haN' : (a : Int) < (N : Int) := by omega
              obtain ⟨b5, o5, u, rfl, hb5, hc5, hu, hu0, hu1⟩ := (Y9.out.below HB9.out).at_ (k := a) (by rw [LL.out]; exact haN)
              obtain ⟨h1, h2⟩ := LV.out a haN
              have h3 : u = (To.lev (Gr.nat es) N a : Int) := by rw [← hu.out, h1]
              have MS := To.mx_snocI (To.lev (Gr.nat es) N) (av.take j) a v HV.out
              rw [← take_getD hja ha.symm, ← h3] at MS
              have hu3 : u < 16 := by omega
              have hu4 : 0 ≤ u := by omega
              have MSH := Lib.hid MS
              clear hy hy0 hy1 hu hu0 hu1 h1 h2 h3 ha MS HV
              by_cases c3 : v < u
              · have V' : Hid (u = (To.mx (To.lev (Gr.nat es) N) (av.take (j + 1)) : Int) - 1) := Lib.hid (by rw [MSH.out, if_pos c3])
                clear MSH
                go_wp2
                go_roundw
                case rel => exact ⟨j + 1, u, by omega, by go_num, rfl, V', Lib.hid (by omega), HB9⟩
                case measure => simp [intOf]; omega
              · have V' : Hid (v = (To.mx (To.lev (Gr.nat es) N) (av.take (j + 1)) : Int) - 1) := Lib.hid (by rw [MSH.out, if_neg c3])
                clear MSH
                go_wp2
                go_roundw
                case rel => exact ⟨j + 1, v, by omega, by go_num, rfl, V', HV16, HB9⟩
                case measure => simp [intOf]; omega
            · obtain rfl : lz = j := by omega
              obtain ⟨b5, o5, u, rfl, hb5, hc5, hu, hu0, hu1⟩ := (Y9.out.below HB9.out).at_ (k := k) (by rw [LL.out]; exact hlt)
              have hv3 : u = v + 1 := by
                have h1 := HV.out
                rw [LZ.out, List.take_length, ← LK.out] at h1
                rw [← hu.out, HK1.out]; omega
              subst hv3
              have BE : Hid (Below w7.heap.size w7 wr) := Lib.hid (D9.out.trans (HB9.out.mono D9.out.size))
              clear hu hu0 hu1 HV
              go_wp2
              go_roundw
              case rel => exact ⟨k + 1, by omega, by go_num, BE⟩
              case measure => simp [intOf]; omega
        · obtain rfl : N = k := by omega
          go_wp2
          go_ret
          exact ⟨rfl, BB⟩
end Go.Proofs.Ytgeefkfolejbnaa
