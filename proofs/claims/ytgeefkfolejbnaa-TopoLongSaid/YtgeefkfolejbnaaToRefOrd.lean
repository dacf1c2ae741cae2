/-
  The reference's Order.
-/
import Derived.Test.YtgeefkfolejbnaaToRefIn
import Derived.Test.YtgeefkfolejbnaaGrCycle
namespace Go.Proofs.Ytgeefkfolejbnaa
open Go.RowKit
/-- What the search downwards has found ahead of node j. -/
def To.Least (es : Gr.E) (N : Nat) (L : List Nat) (j : Nat) (z : Int) : Prop :=
  (z = -1 ∧ ∀ y, j ≤ y → y < N → To.ready es N L y = false) ∨ ∃ x : Nat, z = (x : Int) ∧ j ≤ x ∧ x < N ∧ To.ready es N L x = true ∧ ∀ y, j ≤ y → y < x → To.ready es N L y = false
theorem To.Least.no {es : Gr.E} {N : Nat} {L : List Nat} {i : Nat} {z : Int} (h : To.Least es N L (i + 1) z) (hr : To.ready es N L i = false) : To.Least es N L i z := by
  rcases h with ⟨h1, h2⟩ | ⟨x, h1, h2, h3, h4, h5⟩
  · refine .inl ⟨h1, fun y hy hn => ?_⟩
    rcases Nat.eq_or_lt_of_le hy with rfl | hy
    · exact hr
    · exact h2 y hy hn
  · refine .inr ⟨x, h1, by omega, h3, h4, fun y hy hn => ?_⟩
    rcases Nat.eq_or_lt_of_le hy with rfl | hy
    · exact hr
    · exact h5 y hy hn
theorem To.Least.yes {es : Gr.E} {N : Nat} {L : List Nat} {i : Nat} (hi : i < N) (hr : To.ready es N L i = true) : To.Least es N L i (i : Int) := .inr ⟨i, rfl, Nat.le_refl _, hi, hr, fun y hy hn => by omega⟩
theorem To.Least.next {es : Gr.E} {N : Nat} {L : List Nat} {z : Int} (h : To.Least es N L 0 z) : (z = -1 ∧ To.next es N L = none) ∨ ∃ x : Nat, z = (x : Int) ∧ x < N ∧ To.ready es N L x = true ∧ To.next es N L = some x := by
  rcases h with ⟨h1, h2⟩ | ⟨x, h1, h2, h3, h4, h5⟩
  · exact .inl ⟨h1, To.next_none.2 fun y hy => h2 y (Nat.zero_le _) hy⟩
  · exact .inr ⟨x, h1, h3, h4, To.next_eq h3 h4 fun y hy => h5 y (Nat.zero_le _) hy⟩
/-- What is known of a node behind k of those that it wants. -/
def To.rdK (L : List Int) (i : Int) (zs : List Int) (k : Nat) : Bool := !L.contains i && (zs.take k).all fun a => L.contains a
theorem To.rdK_next {L : List Int} {i : Int} {zs : List Int} {k : Nat} {z : Int} (hk : k < zs.length) (hz : zs.getD k 0 = z) : To.rdK L i zs (k + 1) = (To.rdK L i zs k && L.contains z) := by
  unfold To.rdK
  rw [take_at hk hz, List.all_append, Bool.and_assoc]
  simp
theorem To.rdK_done {es : Gr.EI} {N : Nat} (hg : Gr.Good (N : Int) es) (L : List Nat) (i : Nat) : To.rdK (Gr.ints L) (i : Int) (Gr.aheadI (N : Int) es (i : Int)) (Gr.aheadI (N : Int) es (i : Int)).length = To.ready (Gr.nat es) N L i := by
  unfold To.rdK To.ready
  rw [List.take_length, Gr.aheadI_eq hg, Gr.ints_contains]
  congr 1
  · rw [show L.contains i = decide (i ∈ L) by rw [Bool.eq_iff_iff, List.contains_iff_mem, decide_eq_true_eq]]
  · unfold Gr.ints
    rw [List.all_map]
    congr 1
    funext a
    show (Gr.ints L).contains ((a : Nat) : Int) = _
    rw [Gr.ints_contains, Bool.eq_iff_iff, List.contains_iff_mem, decide_eq_true_eq]
theorem To.ahead16 (n : Int) (es : Gr.EI) (v : Int) : (Gr.aheadI n es v).length ≤ 16 := by
  unfold Gr.aheadI
  split
  · next h =>
    have g := Gr.goodV_iff.1 h
    rw [Gr.ints_len]
    have h1 := List.length_filter_le (fun a : Nat => es.contains ((a : Int), v)) (List.range n.toNat)
    rw [List.length_range] at h1
    have := g.n16
    omega
  · simp
set_option maxRecDepth 100000 in
set_option maxHeartbeats 4000000 in
theorem refOrder_any (n : Int) (A : Option Addr) (es : Gr.EI) (cap : Nat) (hl : es.length ≤ 1000000) (w : World) (h : Edg w w.heap.size A es) :
    Calls Try.prog 16 #[.agg #[.int .i64 n, .slice A es.length cap]] w (OptG w (To.orderI n es)) := by
  have GD : Hid (∀ W, Below w.heap.size w W → Calls Try.prog 32 #[.agg #[.int .i64 n, .slice A es.length cap]] W (BoolG W (Gr.goodV n es))) := Lib.hid fun W hW => refGood_any n A es cap hl W (h.on hW)
  have AH : Hid (∀ W v, Below w.heap.size w W → Calls Try.prog 33 #[.agg #[.int .i64 n, .slice A es.length cap], .int .i64 v] W (ListG W (Gr.aheadI n es v))) := Lib.hid fun W v hW => refAhead_any n A es cap v hl W (h.on hW)
  generalize es.length = l at *
  clear h hl
  obtain ⟨W1, hW1⟩ : ∃ W1, W1 = w.alloc (.cells #[.int .i64 n, .slice A l cap] 39) := ⟨_, rfl⟩
  have P1 : Hid (W1.heap[w.heap.size]? = some (.cells #[.int .i64 n, .slice A l cap] 39 (0, 0))) := Lib.hid (by rw [hW1]; exact heap_alloc_new ..)
  have B1 : Hid (Below w.heap.size w W1) := Lib.hid (by rw [hW1]; exact (Below.refl _ _).alloc (Nat.le_refl _) _)
  obtain ⟨⟨x0, x1⟩, -⟩ := obG P1.out
  cases hg : Gr.goodV n es with
  | false =>
    rw [hg] at GD
    have E : Hid (To.orderI n es = none) := Lib.hid (To.orderI_bad hg)
    clear hg
    go_enter Try.func16, Try.ntmps16
    go_wp2_with fail
    rw [← hW1]
    clear hW1
    (with_reducible refine (GD.out _ B1.out).mono ?_); rintro e w2 ⟨rfl, b2⟩
    go_wp2_with fail
    refine bodyPost_ret (v := .tuple #[.slice none 0 0, .bool false]) (by simp [results, Try.results16, go_sem]) rfl ?_
    rw [E.out]
    exact ⟨none, 0, rfl, Lib.hid (Nat.le_refl _), Lib.hid Zs.nil_, Lib.hid (B1.out.trans (b2.out.mono B1.out.size))⟩
  | true =>
    rw [hg] at GD
    have G := Gr.goodV_iff.1 hg
    obtain ⟨N, hN⟩ : ∃ N : Nat, n = (N : Int) := ⟨n.toNat, by have := G.n0; omega⟩
    have hN16 : N ≤ 16 := by have := G.n16; omega
    have E : Hid (To.orderI n es = (To.orderV (Gr.nat es) N).map Gr.ints) := Lib.hid (by unfold To.orderI; rw [if_pos hg, hN, Int.toNat_natCast])
    subst hN
    have GH := Lib.hid G
    clear hg G
    go_enter Try.func16, Try.ntmps16
    go_wp2_with fail
    rw [← hW1]
    clear hW1 x0 x1
    (with_reducible refine (GD.out _ B1.out).mono ?_); rintro e w2 ⟨rfl, b2⟩
    have P2 : Hid (w2.heap[w.heap.size]? = some (.cells #[.int .i64 (N : Int), .slice A l cap] 39 (0, 0))) := Lib.hid ((b2.out.block _ (lt_of_block P1.out)).trans P1.out)
    have B2 : Hid (Below w.heap.size w w2) := Lib.hid (B1.out.trans (b2.out.mono B1.out.size))
    have SZ : Hid (w.heap.size ≤ w2.heap.size) := Lib.hid B2.out.size
    clear b2 P1 B1 GD
    go_wp2_with fail
    go_loopw [4] (fun lv wr => ∃ (L : List Nat) (m : Nat) (A' : Option Addr) (cap' : Nat), m ≤ N ∧ lv = .slice A' m cap' ∧ Hid (m = L.length) ∧ Hid (To.Ord (Gr.nat es) N L) ∧ Hid (To.orderK (Gr.nat es) N (N - L.length) L = To.orderV (Gr.nat es) N) ∧ Hid (OwnZ wr w2.heap.size A' cap' (Gr.ints L)) ∧ Hid (Below w2.heap.size w2 wr)) (fun lv _ => N - lenZ lv)
    case atStart => exact ⟨[], 0, none, 0, Nat.zero_le _, rfl, Lib.hid rfl, Lib.hid (To.Ord.nil _ _), Lib.hid rfl, Lib.hid (OwnZ.none_ _ _), Lib.hid (Below.refl _ _)⟩
    case round =>
      obtain ⟨L, m, A', cap', hm, rfl, HM, HL, HK, HO, HB⟩ := hrel
      obtain ⟨wo, hwo⟩ : ∃ wo, wo = wr := ⟨_, rfl⟩
      rw [← hwo] at HO HB ⊢
      clear hwo
      have PR : Hid (∀ W, Below wo.heap.size wo W → (W.cell? ⟨w.heap.size, 0, none⟩ = some (.int .i64 (N : Int)) ∧ W.cell? ⟨w.heap.size, 1, none⟩ = some (.slice A l cap))) := Lib.hid fun W hW =>
        (obG ((hW.block _ (Nat.lt_of_lt_of_le (lt_of_block P2.out) HB.out.size)).trans ((HB.out.block _ (lt_of_block P2.out)).trans P2.out))).1
      have BW : Hid (Below w.heap.size w wo) := Lib.hid (B2.out.trans (HB.out.mono B2.out.size))
      obtain ⟨x0, x1⟩ := PR.out _ (Below.refl _ _)
      by_cases hlt : m < N
      · have hlt' : (m : Int) < (N : Int) := by omega
        go_wp2_with fail
        go_loopw [5, 6] (fun nx iv wr => ∃ (j : Nat) (c z : Int), j ≤ N ∧ c = (j : Int) - 1 ∧ iv = .int .i64 c ∧ nx = .int .i64 z ∧ Hid (To.Least (Gr.nat es) N L j z) ∧ Hid (Below wo.heap.size wo wr)) (fun _ iv _ => (intOf iv + 1).toNat)
        case atStart => exact ⟨N, _, _, Nat.le_refl _, rfl, rfl, rfl, Lib.hid (.inl ⟨rfl, fun y h1 h2 => by omega⟩), Lib.hid (Below.refl _ _)⟩
        case round =>
          obtain ⟨j, c, z, hj, hc, rfl, rfl, HLE, HB2⟩ := hrel
          clear x0 x1
          obtain ⟨x0, x1⟩ := PR.out _ HB2.out
          have BW2 : Hid (Below w.heap.size w wr) := Lib.hid (BW.out.trans (HB2.out.mono BW.out.size))
          rcases j with _ | i
          · have hc0 : c < 0 := by omega
            clear hc
            have NX := Lib.hid (HLE.out.next)
            clear HLE
            by_cases hz : z = -1
            · subst hz
              have EO : Hid (To.orderI (N : Int) es = none) := Lib.hid (by
                have hn : To.next (Gr.nat es) N L = none := by
                  rcases NX.out with ⟨_, h⟩ | ⟨x, h, _⟩
                  · exact h
                  · omega
                rw [E.out, ← HK.out, ← HM.out]
                obtain ⟨d, hd⟩ : ∃ d, N - m = d + 1 := ⟨N - m - 1, by omega⟩
                rw [hd]; unfold To.orderK; rw [hn]; rfl)
              go_wp2_with fail
              refine bodyPost_ret (v := .tuple #[.slice none 0 0, .bool false]) (by simp [results, Try.results16, go_sem]) rfl ?_
              rw [EO.out]
              exact ⟨none, 0, rfl, Lib.hid (Nat.le_refl _), Lib.hid Zs.nil_, BW2⟩
            · obtain ⟨x, rfl, hx, hr, hn⟩ : ∃ x : Nat, z = (x : Int) ∧ x < N ∧ To.ready (Gr.nat es) N L x = true ∧ To.next (Gr.nat es) N L = some x := by
                rcases NX.out with ⟨h, _⟩ | h
                · exact absurd h hz
                · exact h
              have HL' : Hid (To.Ord (Gr.nat es) N (L ++ [x])) := Lib.hid (HL.out.next GH.out.low hx hr)
              have HK' : Hid (To.orderK (Gr.nat es) N (N - (L ++ [x]).length) (L ++ [x]) = To.orderV (Gr.nat es) N) := Lib.hid (by
                rw [← HK.out, ← HM.out]
                obtain ⟨d, hd⟩ : ∃ d, N - m = d + 1 := ⟨N - m - 1, by omega⟩
                rw [hd, show N - (L ++ [x]).length = d by rw [List.length_append, ← HM.out]; simp; omega]
                show _ = (match To.next (Gr.nat es) N L with | none => none | some x => To.orderK (Gr.nat es) N d (L ++ [x]))
                rw [hn])
              have O2 : Hid (OwnZ wr w2.heap.size A' cap' (Gr.ints L)) := Lib.hid (HO.out.grew HB2.out (Nat.le_refl _))
              have D2 : Hid (Below w2.heap.size w2 wr) := Lib.hid (HB.out.trans (HB2.out.mono HB.out.size))
              have MI : Hid (m = (Gr.ints L).length) := Lib.hid (by rw [Gr.ints_len]; exact HM.out)
              have IX : Hid (inI (x : Int)) := Lib.hid ⟨by omega, by omega⟩
              clear NX hr hn
              go_wp2_with (at_builtin; refine wp_appZ rfl (.tmp 51) (.tmp 53) rfl rfl MI.out (O2.out.grew ((Below.refl _ _).alloc (Nat.le_refl _) _) (Nat.le_refl _)) (by have := D2.out.size; simp; omega) rfl (cell_litN (by simp)) IX.out (by have := MI.out; omega) ?_; intro A3 c3 w4 o3 d3; have O4 := Lib.hid o3; have D4 := Lib.hid (grownZ_below (O2.out.grew ((Below.refl _ _).alloc (Nat.le_refl _) _) (Nat.le_refl _)) (by have := D2.out.size; simp; omega) d3); clear o3 d3)
              go_roundw
              case rel => exact ⟨L ++ [x], _, A3, c3, by rw [← MI.out]; omega, rfl, Lib.hid (by rw [List.length_append, ← MI.out, HM.out]; rfl), HL', HK', Lib.hid (by rw [Gr.ints_app]; exact O4.out), Lib.hid ((D2.out.alloc D2.out.size _).trans D4.out)⟩
              case measure => simp only [lenZ]; rw [← MI.out]; omega
          · obtain rfl : c = (i : Int) := by omega
            clear hc
            have hi0 : (0 : Int) ≤ (i : Int) := by omega
            have AI : Hid (Calls Try.prog 33 #[.agg #[.int .i64 (N : Int), .slice A l cap], .int .i64 (i : Int)] wr (ListG wr (Gr.aheadI (N : Int) es (i : Int)))) := Lib.hid (AH.out _ _ BW2.out)
            have A16 := Lib.hid (To.ahead16 (N : Int) es (i : Int))
            have RD := Lib.hid (To.rdK_done GH.out L i)
            obtain ⟨zs, hzs⟩ : ∃ zs, zs = Gr.aheadI (N : Int) es (i : Int) := ⟨_, rfl⟩
            rw [← hzs] at AI A16 RD
            clear hzs
            go_wp2_with fail
            (with_reducible refine AI.out.mono ?_); rintro e w3 ⟨A3, c3, rfl, o3, b3⟩
            obtain ⟨lz, hlz⟩ : ∃ lz, lz = zs.length := ⟨_, rfl⟩
            have LZ := Lib.hid hlz
            rw [← hlz]
            have Z3 : Hid (Zs w3 w3.heap.size A3 zs) := Lib.hid o3.out.zs
            have D3 : Hid (Below wo.heap.size wo w3) := Lib.hid (HB2.out.trans (b3.out.mono HB2.out.size))
            have ZL : Hid (∀ W, Below wo.heap.size wo W → ∀ x, Calls Try.prog 34 #[.slice A' m cap', .int .i64 x] W (BoolG W ((Gr.ints L).contains x))) := Lib.hid fun W hW x => by
              have := refIn_any A' (Gr.ints L) cap' x (by rw [Gr.ints_len, ← HM.out]; omega) W (HO.out.zs.on hW)
              rwa [Gr.ints_len, ← HM.out] at this
            have hlz16 : lz ≤ 16 := by rw [hlz]; exact A16.out
            clear AI o3 b3 hlz
            go_wp2_with fail
            (with_reducible refine (ZL.out _ D3.out _).mono ?_); rintro e w4 ⟨rfl, b4⟩
            have Z4 : Hid (Zs w4 w4.heap.size A3 zs) := Lib.hid (Z3.out.on b4.out)
            have D4 : Hid (Below wo.heap.size wo w4) := Lib.hid (D3.out.trans (b4.out.mono D3.out.size))
            clear b4 Z3 D3
            obtain ⟨b0, hb0⟩ : ∃ b0, b0 = (Gr.ints L).contains (i : Int) := ⟨_, rfl⟩
            have R0 : Hid (To.rdK (Gr.ints L) (i : Int) zs 0 = !b0) := Lib.hid (by rw [hb0]; unfold To.rdK; simp)
            rw [← hb0]
            clear hb0
            go_wp2_with fail
            clear x0 x1
            go_loopw [8, 9] (fun rv iv wk => ∃ (k : Nat) (b : Bool), k ≤ lz ∧ iv = .int .i64 k ∧ rv = .bool b ∧ Hid (To.rdK (Gr.ints L) (i : Int) zs k = b) ∧ Hid (Below w4.heap.size w4 wk)) (fun _ iv _ => lz - (intOf iv).toNat)
            case atStart => exact ⟨0, _, Nat.zero_le _, rfl, rfl, R0, Lib.hid (Below.refl _ _)⟩
            case round =>
              obtain ⟨k, b, hk, rfl, rfl, HR, HB4⟩ := hrel
              have D5 : Hid (Below wo.heap.size wo wr) := Lib.hid (D4.out.trans (HB4.out.mono D4.out.size))
              by_cases hlk : k < lz
              · have hlk' : (k : Int) < (lz : Int) := by omega
                obtain ⟨b5, o5, y, rfl, hb5, hc5, hy, hy0, hy1⟩ := (Z4.out.below HB4.out).at_ (k := k) (by rw [← LZ.out]; exact hlk)
                have NX := To.rdK_next (L := Gr.ints L) (i := (i : Int)) (by rw [← LZ.out]; exact hlk) hy.out
                rw [HR.out] at NX
                have NX := Lib.hid NX
                clear hy HR
                cases b with
                | true =>
                  go_wp2_with fail
                  (with_reducible refine (ZL.out _ D5.out _).mono ?_); rintro e w6 ⟨rfl, b6⟩
                  obtain ⟨b1, hb1⟩ : ∃ b1, b1 = (Gr.ints L).contains y := ⟨_, rfl⟩
                  have N1 : Hid (To.rdK (Gr.ints L) (i : Int) zs (k + 1) = b1) := Lib.hid (by rw [NX.out, hb1]; simp)
                  rw [← hb1]
                  clear hb1 NX
                  have B6 : Hid (Below w4.heap.size w4 w6) := Lib.hid (HB4.out.trans (b6.out.mono HB4.out.size))
                  clear b6
                  go_wp2
                  go_roundw
                  case rel => exact ⟨k + 1, b1, by omega, by go_num, rfl, N1, B6⟩
                  case measure => simp [intOf]; omega
                | false =>
                  have N1 : Hid (To.rdK (Gr.ints L) (i : Int) zs (k + 1) = false) := Lib.hid (by rw [NX.out]; rfl)
                  clear NX
                  go_wp2
                  go_roundw
                  case rel => exact ⟨k + 1, false, by omega, by go_num, rfl, N1, HB4⟩
                  case measure => simp [intOf]; omega
              · obtain rfl : lz = k := by omega
                have RB : Hid (To.ready (Gr.nat es) N L i = b) := Lib.hid (by rw [← RD.out, ← LZ.out]; exact HR.out)
                cases b with
                | true =>
                  have LE' : Hid (To.Least (Gr.nat es) N L i (i : Int)) := Lib.hid (To.Least.yes (by omega) RB.out)
                  go_wp2
                  go_roundw
                  case rel => exact ⟨i, (i : Int) - 1, (i : Int), by omega, rfl, by go_num, rfl, LE', D5⟩
                  case measure => simp [intOf]
                | false =>
                  have LE' : Hid (To.Least (Gr.nat es) N L i z) := Lib.hid (HLE.out.no RB.out)
                  go_wp2
                  go_roundw
                  case rel => exact ⟨i, (i : Int) - 1, z, by omega, rfl, by go_num, rfl, LE', D5⟩
                  case measure => simp [intOf]
      · obtain rfl : m = N := by omega
        have EO : Hid (To.orderI (m : Int) es = some (Gr.ints L)) := Lib.hid (by rw [E.out, ← HK.out, ← HM.out, Nat.sub_self]; rfl)
        go_wp2_with fail
        refine bodyPost_ret (v := .tuple #[.slice A' m cap', .bool true]) (by simp [results, Try.results16, go_sem]) rfl ?_
        rw [EO.out]
        exact ⟨A', cap', by rw [HM.out]; simp [Gr.ints_len], Lib.hid HO.out.cap_, Lib.hid HO.out.zs, BW⟩
end Go.Proofs.Ytgeefkfolejbnaa
