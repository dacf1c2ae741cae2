/-
  The program's Order.
-/
import Derived.Test.YtgeefkfolejbnaaToPlaced
import Derived.Test.YtgeefkfolejbnaaGrCycle
namespace Go.Proofs.Ytgeefkfolejbnaa
open Go.RowKit
set_option maxRecDepth 100000 in
set_option maxHeartbeats 4000000 in
theorem order_any (n : Int) (A : Option Addr) (es : Gr.EI) (cap : Nat) (hl : es.length ≤ 9223372036854775807) (w : World) (h : Edg w w.heap.size A es) :
    Calls Try.prog 9 #[.agg #[.int .i64 n, .slice A es.length cap]] w (OptG w (To.orderI n es)) := by
  have GD : Hid (∀ W, Below w.heap.size w W → Calls Try.prog 21 #[.agg #[.int .i64 n, .slice A es.length cap]] W (BoolG W (Gr.goodV n es))) := Lib.hid fun W hW => good_any n A es cap hl W (h.on hW)
  have AH : Hid (∀ W (N : Nat), n = (N : Int) → Gr.Good n es → Below w.heap.size w W → Calls Try.prog 27 #[.agg #[.int .i64 n, .slice A es.length cap]] W (BefG W (Gr.nat es) N)) := Lib.hid fun W N hN hg hW => by
    subst hN
    exact allAhead_any N A es cap hg W (h.on hW)
  generalize es.length = l at *
  clear h hl
  obtain ⟨W1, hW1⟩ : ∃ W1, W1 = w.alloc (.cells #[.int .i64 n, .slice A l cap] 27) := ⟨_, rfl⟩
  have P1 : Hid (W1.heap[w.heap.size]? = some (.cells #[.int .i64 n, .slice A l cap] 27 (0, 0))) := Lib.hid (by rw [hW1]; exact heap_alloc_new ..)
  have B1 : Hid (Below w.heap.size w W1) := Lib.hid (by rw [hW1]; exact (Below.refl _ _).alloc (Nat.le_refl _) _)
  obtain ⟨⟨x0, x1⟩, -⟩ := obG P1.out
  cases hg : Gr.goodV n es with
  | false =>
    rw [hg] at GD
    have E : Hid (To.orderI n es = none) := Lib.hid (To.orderI_bad hg)
    clear hg
    go_enter Try.func9, Try.ntmps9
    go_wp2_with fail
    rw [← hW1]
    clear hW1
    (with_reducible refine (GD.out _ B1.out).mono ?_); rintro e w2 ⟨rfl, b2⟩
    go_wp2_with fail
    refine bodyPost_ret (v := .tuple #[.slice none 0 0, .bool false]) (by simp [results, Try.results9, go_sem]) rfl ?_
    rw [E.out]
    exact ⟨none, 0, rfl, Lib.hid (Nat.le_refl _), Lib.hid Zs.nil_, Lib.hid (B1.out.trans (b2.out.mono B1.out.size))⟩
  | true =>
    rw [hg] at GD
    have G := Gr.goodV_iff.1 hg
    obtain ⟨N, hN⟩ : ∃ N : Nat, n = (N : Int) := ⟨n.toNat, by have := G.n0; omega⟩
    have hN16 : N ≤ 16 := by have := G.n16; omega
    have E : Hid (To.orderI n es = (To.orderV (Gr.nat es) N).map Gr.ints) := Lib.hid (by unfold To.orderI; rw [if_pos hg, hN, Int.toNat_natCast])
    have LO : Hid (Gr.Low (Gr.nat es) N) := Lib.hid (by have := G.low; rwa [hN, Int.toNat_natCast] at this)
    have LE : Hid ((Gr.nat es).length ≤ 1000000) := Lib.hid (by unfold Gr.nat; rw [List.length_map]; have := G.len; omega)
    have AH2 : Hid (∀ W, Below w.heap.size w W → Calls Try.prog 27 #[.agg #[.int .i64 n, .slice A l cap]] W (BefG W (Gr.nat es) N)) := Lib.hid fun W hW => AH.out W N hN G hW
    subst hN
    have MK := fun W => made_F N (by omega) W
    have MK2 := fun W => made_Z0 N (by omega) W
    clear hg G AH
    go_enter Try.func9, Try.ntmps9
    go_wp2_with fail
    rw [← hW1]
    clear hW1 x0 x1
    (with_reducible refine (GD.out _ B1.out).mono ?_); rintro e w2 ⟨rfl, b2⟩
    have P2 : Hid (w2.heap[w.heap.size]? = some (.cells #[.int .i64 (N : Int), .slice A l cap] 27 (0, 0))) := Lib.hid ((b2.out.block _ (lt_of_block P1.out)).trans P1.out)
    have B2 : Hid (Below w.heap.size w w2) := Lib.hid (B1.out.trans (b2.out.mono B1.out.size))
    clear b2 P1 B1 GD
    obtain ⟨⟨x0, x1⟩, -⟩ := obG P2.out
    go_wp2_with fail
    (with_reducible refine (AH2.out _ B2.out).mono ?_); rintro e w3 ⟨g, rfl, bf3, b3⟩
    have P3 : Hid (w3.heap[w.heap.size]? = some (.cells #[.int .i64 (N : Int), .slice A l cap] 27 (0, 0))) := Lib.hid ((b3.out.block _ (lt_of_block P2.out)).trans P2.out)
    have B3 : Hid (Below w.heap.size w w3) := Lib.hid (B2.out.trans (b3.out.mono B2.out.size))
    clear x0 x1 b3 P2 B2 AH2
    obtain ⟨⟨x0, x1⟩, -⟩ := obG P3.out
    obtain ⟨F, hF⟩ : ∃ F, F = w3.heap.size := ⟨_, rfl⟩
    obtain ⟨W4, hW4⟩ : ∃ W4, W4 = w3.alloc (.cells (madeCells #[.bool false] N) 4) := ⟨_, rfl⟩
    have Z4 : Hid (W4.heap.size = F + 1) := Lib.hid (by rw [hW4, hF]; simp)
    have F4 : Hid (OwnF W4 F (some ⟨F, 0, none⟩) N (List.replicate N false)) := Lib.hid (by rw [hW4, hF]; exact OwnF.made w3 N (by omega))
    have B4 : Hid (Below F w3 W4) := Lib.hid (by rw [hW4, hF]; exact (Below.refl _ _).alloc (Nat.le_refl _) _)
    have XF : Hid (w.heap.size < F) := Lib.hid (by rw [hF]; exact lt_of_block P3.out)
    have PX : Hid (∀ W, Below F w3 W → (W.cell? ⟨w.heap.size, 0, none⟩ = some (.int .i64 (N : Int)) ∧ W.cell? ⟨w.heap.size, 1, none⟩ = some (.slice A l cap))) := Lib.hid fun W hW => (obG ((hW.block _ XF.out).trans P3.out)).1
    have BX : Hid (∀ W, Below F w3 W → Below w.heap.size w W) := Lib.hid fun W hW => B3.out.trans (hW.mono (Nat.le_of_lt XF.out))
    have HBF : Hid (∀ W, Below F w3 W → Bef W W.heap.size g (Gr.nat es) N) := Lib.hid fun W hW => by
      rw [hF] at hW
      exact bf3.out.on hW
    go_upto_region 5 with fail
    rw [← hW4, ← hF]
    clear hW4 hF MK x0 x1 P3 B3 bf3
    obtain ⟨x0, x1⟩ := PX.out _ B4.out
    obtain ⟨W5, hW5⟩ : ∃ W5, W5 = W4.alloc (.cells (madeCells #[.int .i64 0] N) 3) := ⟨_, rfl⟩
    have F5 : Hid (OwnF W5 F (some ⟨F, 0, none⟩) N (List.replicate N false)) := Lib.hid (by rw [hW5]; exact F4.out.grew ((Below.refl _ _).alloc (Nat.le_refl _) _) (Nat.le_refl _))
    have O5 : Hid (OwnZ W5 (F + 1) (some ⟨F + 1, 0, none⟩) N []) := Lib.hid (by rw [hW5, ← Z4.out]; exact OwnZ.made0 W4 N (by omega))
    have B5 : Hid (Below F w3 W5) := Lib.hid (by rw [hW5]; exact B4.out.alloc (by have := Z4.out; omega) _)
    have Z5 : Hid (F + 1 < W5.heap.size) := Lib.hid (by have h := Z4.out; rw [hW5, World.size_alloc]; omega)
    go_wp2_with fail
    rw [← hW5, Z4.out]
    clear hW5 MK2 x0 x1 F4 B4 Z4
    go_loopw [6] (fun lv wr => ∃ (L : List Nat) (m : Nat) (A' : Option Addr) (cap' : Nat) (bs : List Bool), m ≤ N ∧ lv = .slice A' m cap' ∧ Hid (m = L.length) ∧ Hid (To.Ord (Gr.nat es) N L) ∧ Hid (To.orderK (Gr.nat es) N (N - L.length) L = To.orderV (Gr.nat es) N) ∧ Hid (OwnZ wr (F + 1) A' cap' (Gr.ints L)) ∧ Hid (OwnF wr F (some ⟨F, 0, none⟩) N bs) ∧ Hid (To.Fl N L bs) ∧ Hid (Below F w3 wr) ∧ Hid (F + 1 < wr.heap.size)) (fun lv _ => N - lenZ lv)
    case atStart => exact ⟨[], 0, _, N, _, Nat.zero_le _, rfl, Lib.hid rfl, Lib.hid (To.Ord.nil _ _), Lib.hid rfl, O5, F5, Lib.hid (To.Fl.zero N), B5, Z5⟩
    case round =>
      obtain ⟨L, m, A', cap', bs, hm, rfl, HM, HL, HK, HO, HFl, HB0, HB, HZ⟩ := hrel
      obtain ⟨wo, hwo⟩ : ∃ wo, wo = wr := ⟨_, rfl⟩
      rw [← hwo] at HO HFl HB HZ ⊢
      clear hwo O5 F5 B5 Z5
      obtain ⟨x0, x1⟩ := PX.out _ HB.out
      by_cases hlt : m < N
      · have hlt' : (m : Int) < (N : Int) := by omega
        have LP : Hid (Calls Try.prog 28 #[.slice (some ⟨g, 0, none⟩) N N, .slice (some ⟨F, 0, none⟩) N N] wo (LeastG wo (To.next (Gr.nat es) N L))) := Lib.hid (leastPossible_any (Gr.nat es) g F N L LO.out hN16 LE.out wo (HBF.out _ HB.out) (HFl.out.flg HB0.out))
        go_wp2_with fail
        cases hn : To.next (Gr.nat es) N L with
        | none =>
          rw [hn] at LP
          have EO : Hid (To.orderI (N : Int) es = none) := Lib.hid (by
            rw [E.out, ← HK.out, ← HM.out]
            obtain ⟨d, hd⟩ : ∃ d, N - m = d + 1 := ⟨N - m - 1, by omega⟩
            rw [hd]; unfold To.orderK; rw [hn]; rfl)
          clear hn
          (with_reducible refine LP.out.mono ?_); rintro e w6 ⟨rfl, b6⟩
          go_wp2_with fail
          refine bodyPost_ret (v := .tuple #[.slice none 0 0, .bool false]) (by simp [results, Try.results9, go_sem]) rfl ?_
          rw [EO.out]
          exact ⟨none, 0, rfl, Lib.hid (Nat.le_refl _), Lib.hid Zs.nil_, Lib.hid (BX.out _ (HB.out.trans (b6.out.mono (by have := HZ.out; omega))))⟩
        | some x =>
          rw [hn] at LP
          obtain ⟨hx, hr, _⟩ := To.next_some hn
          have hx' : (x : Int) < (N : Int) := by omega
          have HL' : Hid (To.Ord (Gr.nat es) N (L ++ [x])) := Lib.hid (HL.out.next LO.out hx hr)
          have HK' : Hid (To.orderK (Gr.nat es) N (N - (L ++ [x]).length) (L ++ [x]) = To.orderV (Gr.nat es) N) := Lib.hid (by
            rw [← HK.out, ← HM.out]
            obtain ⟨d, hd⟩ : ∃ d, N - m = d + 1 := ⟨N - m - 1, by omega⟩
            rw [hd, show N - (L ++ [x]).length = d by rw [List.length_append, ← HM.out]; simp; omega]
            show _ = (match To.next (Gr.nat es) N L with | none => none | some x => To.orderK (Gr.nat es) N d (L ++ [x]))
            rw [hn])
          have FL' : Hid (To.Fl N (L ++ [x]) (bs.set x true)) := Lib.hid (HB0.out.put hx)
          clear hn hr
          (with_reducible refine LP.out.mono ?_); rintro e w6 ⟨rfl, b6⟩
          have F6 : Hid (OwnF w6 F (some ⟨F, 0, none⟩) N bs) := Lib.hid (HFl.out.grew b6.out (Nat.le_refl _))
          have O6 : Hid (OwnZ w6 (F + 1) A' cap' (Gr.ints L)) := Lib.hid (HO.out.grew b6.out (Nat.le_refl _))
          have D6 : Hid (Below F w3 w6) := Lib.hid (HB.out.trans (b6.out.mono (by have := HZ.out; omega)))
          have Z6 : Hid (F + 1 < w6.heap.size) := Lib.hid (Nat.lt_of_lt_of_le HZ.out b6.out.size)
          have hf6 := F6.out.thaw x
          have hc6 := F6.out.val (i := x) (by rw [HB0.out.len]; exact hx)
          have F7 : Hid (OwnF (w6.setCell ⟨F, x, none⟩ (.bool true)) F (some ⟨F, 0, none⟩) N (bs.set x true)) := Lib.hid (F6.out.stored x true)
          have O7 : Hid (OwnZ (w6.setCell ⟨F, x, none⟩ (.bool true)) (F + 1) A' cap' (Gr.ints L)) := Lib.hid (O6.out.past (Nat.lt_succ_self F) x _)
          have D7 : Hid (Below F w3 (w6.setCell ⟨F, x, none⟩ (.bool true))) := Lib.hid (D6.out.setCell (p := ⟨F, x, none⟩) (Nat.le_refl F) _)
          have Z7 : Hid (F + 1 < (w6.setCell ⟨F, x, none⟩ (.bool true)).heap.size) := Lib.hid (by have := Z6.out; simpa [World.setCell] using this)
          have MI : Hid (m = (Gr.ints L).length) := Lib.hid (by rw [Gr.ints_len]; exact HM.out)
          have IX : Hid (inI (x : Int)) := Lib.hid ⟨by omega, by omega⟩
          clear b6 F6 O6 D6 Z6 x0 x1 HO HFl HB HZ LP
          go_upto_region 11 with fail
          clear hf6 hc6
          generalize w6.setCell ⟨F, x, none⟩ (.bool true) = w7 at *
          go_wp2_with (at_builtin; refine wp_appZ rfl (.tmp 36) (.tmp 38) rfl rfl MI.out (O7.out.grew ((Below.refl _ _).alloc (Nat.le_refl _) _) (Nat.le_refl _)) (by have := Z7.out; simp; omega) rfl (cell_litN (by simp)) IX.out (by have := MI.out; omega) ?_; intro A8 c8 w8 o8 d8; have O8 := Lib.hid o8; have D8 := Lib.hid (grownZ_below (O7.out.grew ((Below.refl _ _).alloc (Nat.le_refl _) _) (Nat.le_refl _)) (by have := Z7.out; simp; omega) d8); clear o8 d8)
          have D9 : Hid (Below (F + 1) w7 w8) := Lib.hid (((Below.refl _ _).alloc (by have := Z7.out; omega) _).trans D8.out)
          clear D8
          go_roundw
          case rel => exact ⟨L ++ [x], _, A8, c8, _, by rw [← MI.out]; omega, rfl, Lib.hid (by rw [List.length_append, ← MI.out, HM.out]; rfl), HL', HK', Lib.hid (by rw [Gr.ints_app]; exact O8.out), Lib.hid (F7.out.under D9.out (Nat.lt_succ_self F)), FL', Lib.hid (D7.out.trans (D9.out.mono (Nat.le_succ F))), Lib.hid (Nat.lt_of_lt_of_le Z7.out D9.out.size)⟩
          case measure => simp only [lenZ]; rw [← MI.out]; omega
      · obtain rfl : m = N := by omega
        have EO : Hid (To.orderI (m : Int) es = some (Gr.ints L)) := Lib.hid (by rw [E.out, ← HK.out, ← HM.out, Nat.sub_self]; rfl)
        go_wp2_with fail
        refine bodyPost_ret (v := .tuple #[.slice A' m cap', .bool true]) (by simp [results, Try.results9, go_sem]) rfl ?_
        rw [EO.out]
        exact ⟨A', cap', by rw [HM.out]; simp [Gr.ints_len], Lib.hid HO.out.cap_, Lib.hid HO.out.zs, Lib.hid (BX.out _ HB.out)⟩
end Go.Proofs.Ytgeefkfolejbnaa
