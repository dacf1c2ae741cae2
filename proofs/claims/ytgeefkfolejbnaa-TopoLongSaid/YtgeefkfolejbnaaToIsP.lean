/-
  The program's Is.
-/
import Derived.Test.YtgeefkfolejbnaaToLongP
namespace Go.Proofs.Ytgeefkfolejbnaa
open Go.RowKit
theorem To.ints_toNat {l : List Int} (h : ∀ x ∈ l, 0 ≤ x) : Gr.ints (l.map Int.toNat) = l := by
  unfold Gr.ints
  rw [List.map_map]
  conv => rhs; rw [← List.map_id l]
  apply List.map_congr_left
  intro x hx
  have := h x hx
  simp only [Function.comp, id]
  show ((x.toNat : Nat) : Int) = x
  omega
/-- A list that stands at each place is an order: no cycle needs to be looked for. -/
theorem To.isI_good {n : Int} {es : Gr.EI} {l : List Int} (hg : Gr.Good n es) : To.isI n es l = (decide ((l.length : Int) = n) && (List.range l.length).all (To.placeI n es l)) := by
  unfold To.isI
  by_cases hn : (l.length : Int) = n
  · rw [decide_eq_true hn, Bool.and_true, Bool.true_and]
    cases ha : (List.range l.length).all (To.placeI n es l) with
    | false => rw [Bool.and_false]
    | true =>
      rw [Bool.and_true]
      rw [List.all_eq_true] at ha
      have hN := To.good_nn hg
      have hp : ∀ i, i < l.length → 0 ≤ l.getD i 0 ∧ l.getD i 0 < n ∧ l.getD i 0 ∉ l.take i ∧ ∀ a ∈ Gr.aheadI n es (l.getD i 0), a ∈ l.take i := fun i hi => by
        have h1 := ha i (List.mem_range.2 hi)
        unfold To.placeI at h1
        rw [Bool.and_eq_true, Bool.and_eq_true, decide_eq_true_eq, Bool.not_eq_true', List.all_eq_true] at h1
        refine ⟨h1.1.1.1, h1.1.1.2, fun hm => ?_, fun a ha => List.contains_iff_mem.1 (h1.2 a ha)⟩
        have := List.contains_iff_mem.2 hm
        rw [h1.1.2] at this
        cases this
      have hnn : ∀ x ∈ l, 0 ≤ x := fun x hx => by
        obtain ⟨i, hi, e⟩ := List.getElem_of_mem hx
        have := (hp i hi).1
        rw [List.getD_eq_getElem?_getD, List.getElem?_eq_getElem hi] at this
        rw [← e]; exact this
      obtain ⟨o, ho⟩ : ∃ o : List Nat, Gr.ints o = l := ⟨_, To.ints_toNat hnn⟩
      have hol : o.length = l.length := by rw [← ho, Gr.ints_len]
      have hog : ∀ i, l.getD i 0 = ((o.getD i 0 : Nat) : Int) := fun i => by rw [← ho, To.ints_getD]
      have hot : ∀ i, l.take i = Gr.ints (o.take i) := fun i => by rw [← ho, To.ints_take]
      have hg2 : Gr.Good ((n.toNat : Nat) : Int) es := by rw [hN]; exact hg
      have hnew : ∀ i, i < o.length → o.getD i 0 ∉ o.take i := fun i hi hm => by
        have h1 := (hp i (by omega)).2.2.1
        rw [hog, hot] at h1
        exact h1 (List.mem_map.2 ⟨_, hm, rfl⟩)
      have hord : To.Ord (Gr.nat es) n.toNat o := by
        refine ⟨?_, fun x hx => ?_, fun i hi a ha => ?_⟩
        · rw [List.Nodup, List.pairwise_iff_getElem]
          intro i j hi hj hij e
          apply hnew j hj
          rw [List.getD_eq_getElem?_getD, List.getElem?_eq_getElem hj, Option.getD_some, ← e]
          exact List.mem_take_iff_getElem.2 ⟨i, by omega, rfl⟩
        · obtain ⟨i, hi, e⟩ := List.getElem_of_mem hx
          have := (hp i (by omega)).2.1
          rw [hog, List.getD_eq_getElem?_getD, List.getElem?_eq_getElem hi, Option.getD_some, e] at this
          omega
        · have h1 := (hp i (by omega)).2.2.2 (a : Int) (by
            rw [hog, show n = ((n.toNat : Nat) : Int) from hN.symm, Gr.aheadI_eq hg2]
            exact List.mem_map.2 ⟨a, (Gr.mem_ahead hg.low).2 ha, rfl⟩)
          rw [hot] at h1
          obtain ⟨z, hz, e⟩ := List.mem_map.1 h1
          have : z = a := by
            have e2 : (z : Int) = (a : Int) := e
            omega
          rw [← this]; exact hz
      exact To.okI_iff.2 ⟨hg, hord.tree hg.low (by omega)⟩
  · rw [decide_eq_false hn, Bool.and_false, Bool.false_and]
theorem To.isI_inv {n : Int} {es : Gr.EI} {l : List Int} (h : Gr.goodV n es = false) : To.isI n es l = false := by
  unfold To.isI To.okI
  rw [h]
  rfl
set_option maxRecDepth 100000 in
set_option maxHeartbeats 4000000 in
theorem is_any (n : Int) (A : Option Addr) (es : Gr.EI) (cap : Nat) (A2 : Option Addr) (ls : List Int) (cap2 : Nat) (hl : es.length ≤ 9223372036854775807) (hl2 : ls.length ≤ 1000000) (hc2 : ls.length ≤ cap2) (w : World) (h : Edg w w.heap.size A es) (h2 : Zs w w.heap.size A2 ls) :
    Calls Try.prog 14 #[.agg #[.int .i64 n, .slice A es.length cap], .slice A2 ls.length cap2] w (BoolG w (To.isI n es ls)) := by
  have GD : Hid (∀ W, Below w.heap.size w W → Calls Try.prog 21 #[.agg #[.int .i64 n, .slice A es.length cap]] W (BoolG W (Gr.goodV n es))) := Lib.hid fun W hW => good_any n A es cap hl W (h.on hW)
  have AH : Hid (∀ W (N : Nat), n = (N : Int) → Gr.Good n es → Below w.heap.size w W → Calls Try.prog 27 #[.agg #[.int .i64 n, .slice A es.length cap]] W (BefG W (Gr.nat es) N)) := Lib.hid fun W N hN hg hW => by
    subst hN
    exact allAhead_any N A es cap hg W (h.on hW)
  have H2 := Lib.hid h2
  generalize es.length = l at *
  obtain ⟨m, hm⟩ : ∃ m, m = ls.length := ⟨_, rfl⟩
  have HM := Lib.hid hm
  rw [← hm] at hl2 ⊢
  clear h hl h2 hc2 hm
  obtain ⟨W1, hW1⟩ : ∃ W1, W1 = w.alloc (.cells #[.int .i64 n, .slice A l cap] 27) := ⟨_, rfl⟩
  have P1 : Hid (W1.heap[w.heap.size]? = some (.cells #[.int .i64 n, .slice A l cap] 27 (0, 0))) := Lib.hid (by rw [hW1]; exact heap_alloc_new ..)
  have B1 : Hid (Below w.heap.size w W1) := Lib.hid (by rw [hW1]; exact (Below.refl _ _).alloc (Nat.le_refl _) _)
  obtain ⟨⟨x0, x1⟩, -⟩ := obG P1.out
  cases hg : Gr.goodV n es with
  | false =>
    rw [hg] at GD
    have E : Hid (To.isI n es ls = false) := Lib.hid (To.isI_inv hg)
    clear hg
    go_enter Try.func14, Try.ntmps14
    go_wp2_with fail
    rw [← hW1]
    clear hW1
    (with_reducible refine (GD.out _ B1.out).mono ?_); rintro e w2 ⟨rfl, b2⟩
    go_wp2
    go_ret
    exact ⟨ret_bool E.out.symm, Lib.hid (B1.out.trans (b2.out.mono B1.out.size))⟩
  | true =>
    rw [hg] at GD
    have G := Gr.goodV_iff.1 hg
    obtain ⟨N, hN⟩ : ∃ N : Nat, n = (N : Int) := ⟨n.toNat, by have := G.n0; omega⟩
    have hN16 : N ≤ 16 := by have := G.n16; omega
    have LO : Hid (Gr.Low (Gr.nat es) N) := Lib.hid (by have := G.low; rwa [hN, Int.toNat_natCast] at this)
    have LE : Hid ((Gr.nat es).length ≤ 256) := Lib.hid (by unfold Gr.nat; rw [List.length_map]; exact G.len)
    have AH2 : Hid (∀ W, Below w.heap.size w W → Calls Try.prog 27 #[.agg #[.int .i64 n, .slice A l cap]] W (BefG W (Gr.nat es) N)) := Lib.hid fun W hW => AH.out W N hN G hW
    have E : Hid (To.isI n es ls = (decide ((ls.length : Int) = n) && (List.range ls.length).all (To.placeI n es ls))) := Lib.hid (To.isI_good G)
    subst hN
    have HG := Lib.hid G
    have MK := fun W => made_F N (by omega) W
    clear hg G AH
    go_enter Try.func14, Try.ntmps14
    go_wp2_with fail
    rw [← hW1]
    clear hW1 x0 x1
    (with_reducible refine (GD.out _ B1.out).mono ?_); rintro e w2 ⟨rfl, b2⟩
    have P2 : Hid (w2.heap[w.heap.size]? = some (.cells #[.int .i64 (N : Int), .slice A l cap] 27 (0, 0))) := Lib.hid ((b2.out.block _ (lt_of_block P1.out)).trans P1.out)
    have B2 : Hid (Below w.heap.size w w2) := Lib.hid (B1.out.trans (b2.out.mono B1.out.size))
    clear b2 P1 B1 GD
    obtain ⟨⟨x0, x1⟩, -⟩ := obG P2.out
    by_cases hmN : m = N
    · subst hmN
      go_wp2_with fail
      (with_reducible refine (AH2.out _ B2.out).mono ?_); rintro e w3 ⟨g, rfl, bf3, b3⟩
      have P3 : Hid (w3.heap[w.heap.size]? = some (.cells #[.int .i64 (m : Int), .slice A l cap] 27 (0, 0))) := Lib.hid ((b3.out.block _ (lt_of_block P2.out)).trans P2.out)
      have B3 : Hid (Below w.heap.size w w3) := Lib.hid (B2.out.trans (b3.out.mono B2.out.size))
      clear x0 x1 b3 P2 B2 AH2
      obtain ⟨⟨x0, x1⟩, -⟩ := obG P3.out
      obtain ⟨F, hF⟩ : ∃ F, F = w3.heap.size := ⟨_, rfl⟩
      obtain ⟨W4, hW4⟩ : ∃ W4, W4 = w3.alloc (.cells (madeCells #[.bool false] m) 4) := ⟨_, rfl⟩
      have F4 : Hid (OwnF W4 F (some ⟨F, 0, none⟩) m (List.replicate m false)) := Lib.hid (by rw [hW4, hF]; exact OwnF.made w3 m (by omega))
      have B4 : Hid (Below F w3 W4) := Lib.hid (by rw [hW4, hF]; exact (Below.refl _ _).alloc (Nat.le_refl _) _)
      have XF : Hid (w.heap.size < F) := Lib.hid (by rw [hF]; exact lt_of_block P3.out)
      have PX : Hid (∀ W, Below F w3 W → (W.cell? ⟨w.heap.size, 0, none⟩ = some (.int .i64 (m : Int)) ∧ W.cell? ⟨w.heap.size, 1, none⟩ = some (.slice A l cap))) := Lib.hid fun W hW => (obG ((hW.block _ XF.out).trans P3.out)).1
      have BX : Hid (∀ W, Below F w3 W → Below w.heap.size w W) := Lib.hid fun W hW => B3.out.trans (hW.mono (Nat.le_of_lt XF.out))
      have HBF : Hid (∀ W, Below F w3 W → Bef W F g (Gr.nat es) m) := Lib.hid fun W hW => by
        rw [hF] at hW ⊢
        exact bf3.out.below hW
      have NA : Hid (∀ W v, Calls Try.prog 29 #[.agg #[.int .i64 (m : Int), .slice A l cap], .int .i64 v] W (BoolG W (decide (0 ≤ v) && decide (v < (m : Int))))) := Lib.hid fun W v => toNode_any (m : Int) A l cap v W
      go_wp2_with fail
      rw [← hW4, ← hF]
      clear hW4 hF MK x0 x1 P3 B3 bf3
      go_loopw [26] (fun iv wr => ∃ (i : Nat) (L : List Nat) (bs : List Bool), i ≤ m ∧ iv = .int .i64 i ∧ Hid (Gr.ints L = ls.take i) ∧ Hid (∀ j, j < i → To.placeI (m : Int) es ls j = true) ∧ Hid (OwnF wr F (some ⟨F, 0, none⟩) m bs) ∧ Hid (To.Fl m L bs) ∧ Hid (Below F w3 wr)) (fun iv _ => m - (intOf iv).toNat)
      case atStart => exact ⟨0, [], _, Nat.zero_le _, rfl, Lib.hid rfl, Lib.hid (fun j hj => by omega), F4, Lib.hid (To.Fl.zero m), B4⟩
      case round =>
        obtain ⟨i, L, bs, hi, rfl, HL, HP, HFl, HB0, HB⟩ := hrel
        obtain ⟨wo, hwo⟩ : ∃ wo, wo = wr := ⟨_, rfl⟩
        rw [← hwo] at HFl HB ⊢
        clear hwo F4 B4
        by_cases hlt : i < m
        · have hlt' : (i : Int) < (m : Int) := by omega
          obtain ⟨x0, x1⟩ := PX.out _ HB.out
          obtain ⟨b, off, y, rfl, hb, hc, hy, hy0, hy1⟩ := (H2.out.below (BX.out _ HB.out)).at_ (k := i) (by rw [← HM.out]; exact hlt)
          have PL : Hid (To.placeI (m : Int) es ls i = (decide (0 ≤ y ∧ y < (m : Int)) && !(Gr.ints L).contains y && (Gr.aheadI (m : Int) es y).all fun a => (Gr.ints L).contains a)) := Lib.hid (by unfold To.placeI; rw [hy.out, HL.out])
          have EF : Hid (To.placeI (m : Int) es ls i = false → To.isI (m : Int) es ls = false) := Lib.hid fun h => by
            rw [E.out]
            cases hA : (List.range ls.length).all (To.placeI (m : Int) es ls) with
            | false => rw [Bool.and_false]
            | true =>
              rw [List.all_eq_true] at hA
              rw [hA i (List.mem_range.2 (by rw [← HM.out]; exact hlt))] at h
              cases h
          go_wp2_with fail
          cases hra : (decide (0 ≤ y) && decide (y < (m : Int))) with
          | false =>
            have EO : Hid (To.isI (m : Int) es ls = false) := Lib.hid (EF.out (by
              rw [PL.out, decide_eq_false]
              · rfl
              · intro h
                rw [decide_eq_true h.1, decide_eq_true h.2] at hra
                cases hra))
            have NA1 : Hid (Calls Try.prog 29 #[.agg #[.int .i64 (m : Int), .slice A l cap], .int .i64 y] wo (BoolG wo false)) := Lib.hid (by have := NA.out wo y; rwa [hra] at this)
            clear hra hy
            (with_reducible refine NA1.out.mono ?_); rintro e w5 ⟨rfl, b5⟩
            go_wp2
            go_ret
            exact ⟨ret_bool EO.out.symm, Lib.hid (BX.out _ (HB.out.trans (b5.out.mono (Nat.le_of_lt HFl.out.lt.2))))⟩
          | true =>
          have NA1 : Hid (Calls Try.prog 29 #[.agg #[.int .i64 (m : Int), .slice A l cap], .int .i64 y] wo (BoolG wo true)) := Lib.hid (by have := NA.out wo y; rwa [hra] at this)
          obtain ⟨q, rfl, hq⟩ : ∃ q : Nat, y = (q : Int) ∧ q < m := by
            simp only [Bool.and_eq_true, decide_eq_true_eq] at hra
            exact ⟨y.toNat, by omega, by omega⟩
          have hq' : (q : Int) < (m : Int) := by omega
          clear hra hy0 hy1
          (with_reducible refine NA1.out.mono ?_); rintro e w5 ⟨rfl, b5⟩
          have F5 : Hid (OwnF w5 F (some ⟨F, 0, none⟩) m bs) := Lib.hid (HFl.out.grew b5.out (Nat.le_refl _))
          have D5 : Hid (Below F w3 w5) := Lib.hid (HB.out.trans (b5.out.mono (Nat.le_of_lt HFl.out.lt.2)))
          have hc5 := F5.out.val (i := q) (by rw [HB0.out.len]; exact hq)
          rw [HB0.out.at_ q hq] at hc5
          clear b5 NA1 x0 x1 hc
          have PQ : Hid (To.placeI (m : Int) es ls i = (!L.contains q && (To.befV (Gr.nat es) q).all fun a => L.contains a)) := Lib.hid (by
            rw [PL.out, decide_eq_true ⟨by omega, hq'⟩, Bool.true_and, Gr.ints_contains, Gr.aheadI_eq HG.out]
            congr 1
            · rw [Bool.eq_iff_iff]; simp
            · unfold Gr.ints
              rw [List.all_map, Bool.eq_iff_iff, List.all_eq_true, List.all_eq_true]
              have e : ∀ z : Nat, (List.map Int.ofNat L).contains (Int.ofNat z) = L.contains z := fun z => by
                rw [show (List.map Int.ofNat L).contains (Int.ofNat z) = decide (z ∈ L) from Gr.ints_contains L z, Bool.eq_iff_iff, decide_eq_true_eq, List.contains_iff_mem]
              constructor
              · intro h a ha
                have := h a ((To.bef_ahead LO.out q a).1 ha)
                rwa [Function.comp, e] at this
              · intro h a ha
                rw [Function.comp, e]
                exact h a ((To.bef_ahead LO.out q a).2 ha))
          by_cases hqL : q ∈ L
          · have EO : Hid (To.isI (m : Int) es ls = false) := Lib.hid (EF.out (by rw [PQ.out, List.contains_iff_mem.2 hqL]; rfl))
            rw [decide_eq_true hqL] at hc5
            clear hqL hy
            go_wp2
            go_ret
            exact ⟨ret_bool EO.out.symm, Lib.hid (BX.out _ D5.out)⟩
          · rw [decide_eq_false hqL] at hc5
            have PQ2 : Hid (To.placeI (m : Int) es ls i = (To.befV (Gr.nat es) q).all fun a => L.contains a) := Lib.hid (by
              rw [PQ.out, show L.contains q = false by simpa using hqL]; rfl)
            obtain ⟨A6, c6, hg6, hz6⟩ := (HBF.out _ D5.out).2 q hq
            have AC : Hid (Calls Try.prog 31 #[.slice A6 (To.befV (Gr.nat es) q).length c6, .slice (some ⟨F, 0, none⟩) m m] w5 (BoolG w5 ((To.befV (Gr.nat es) q).all fun a => L.contains a))) := Lib.hid
              (allPlaced_any A6 (To.befV (Gr.nat es) q) c6 F m L (fun z hz => (LO.out _ (To.mem_bef.1 hz)).1) (Nat.le_trans (To.bef_len _ _) (Nat.le_trans LE.out (by decide))) w5 (hz6.more (Nat.le_of_lt F5.out.lt.2)) (F5.out.flg HB0.out))
            obtain ⟨lz, hlz⟩ : ∃ lz, lz = (To.befV (Gr.nat es) q).length := ⟨_, rfl⟩
            obtain ⟨t, ht⟩ : ∃ t, t = (To.befV (Gr.nat es) q).all fun a => L.contains a := ⟨_, rfl⟩
            rw [← hlz] at hg6 AC
            rw [← ht] at AC PQ2
            have HL' : Hid (Gr.ints (L ++ [q]) = ls.take (i + 1)) := Lib.hid (by
              rw [Gr.ints_app, HL.out, List.take_succ_eq_append_getElem (by rw [← HM.out]; exact hlt)]
              have := hy.out
              rw [List.getD_eq_getElem?_getD, List.getElem?_eq_getElem (by rw [← HM.out]; exact hlt), Option.getD_some] at this
              rw [this]; rfl)
            clear hz6 hlz ht hqL hy PQ
            go_wp2_with fail
            (with_reducible refine AC.out.mono ?_); rintro e w6 ⟨rfl, b6⟩
            have F6 : Hid (OwnF w6 F (some ⟨F, 0, none⟩) m bs) := Lib.hid (F5.out.grew b6.out (Nat.le_refl _))
            have D6 : Hid (Below F w3 w6) := Lib.hid (D5.out.trans (b6.out.mono (Nat.le_of_lt F5.out.lt.2)))
            clear hc5 hg6 b6
            cases t with
            | false =>
              have EO : Hid (To.isI (m : Int) es ls = false) := Lib.hid (EF.out PQ2.out)
              go_wp2
              go_ret
              exact ⟨ret_bool EO.out.symm, Lib.hid (BX.out _ D6.out)⟩
            | true =>
              have HP' : Hid (∀ j, j < i + 1 → To.placeI (m : Int) es ls j = true) := Lib.hid fun j hj => by
                rcases Nat.lt_or_ge j i with h | h
                · exact HP.out j h
                · obtain rfl : j = i := by omega
                  exact PQ2.out
              have hf6 := F6.out.thaw q
              have hc6 := F6.out.val (i := q) (by rw [HB0.out.len]; exact hq)
              go_wp2
              go_roundw
              case rel => exact ⟨i + 1, L ++ [q], _, by omega, by go_num, HL', HP', Lib.hid (F6.out.stored q true), Lib.hid (HB0.out.put hq), Lib.hid (D6.out.setCell (p := ⟨F, q, none⟩) (Nat.le_refl F) _)⟩
              case measure => simp [intOf]; omega
        · obtain rfl : m = i := by omega
          have EO : Hid (To.isI (m : Int) es ls = true) := Lib.hid (by
            rw [E.out, decide_eq_true (by rw [← HM.out]), Bool.true_and, List.all_eq_true]
            intro j hj
            exact HP.out j (by rw [HM.out]; exact List.mem_range.1 hj))
          go_wp2
          go_ret
          exact ⟨ret_bool EO.out.symm, Lib.hid (BX.out _ HB.out)⟩
    · have EO : Hid (To.isI (N : Int) es ls = false) := Lib.hid (by rw [E.out, ← HM.out, decide_eq_false (by omega)]; rfl)
      have hd : ((m : Int) == (N : Int)) = false := beq_eq_false_iff_ne.2 (by omega)
      clear hmN
      go_wp2
      go_ret
      exact ⟨ret_bool EO.out.symm, B2⟩
end Go.Proofs.Ytgeefkfolejbnaa
