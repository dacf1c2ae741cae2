/-
  The reference's Is.
-/
import Derived.Test.YtgeefkfolejbnaaToRefLev
import Derived.Test.YtgeefkfolejbnaaURows
namespace Go.Proofs.Ytgeefkfolejbnaa
open Go.RowKit
theorem To.isI_no {n : Int} {es : Gr.EI} {l : List Int} {i : Nat} (hi : i < l.length) (h : To.placeI n es l i = false) : To.isI n es l = false := by
  unfold To.isI
  have : (List.range l.length).all (To.placeI n es l) = false := by
    rw [List.all_eq_false]
    exact ⟨i, by simpa using hi, by rw [h]; simp⟩
  rw [this, Bool.and_false]
theorem To.isI_bad {n : Int} {es : Gr.EI} {l : List Int} (h : To.okI n es = false) : To.isI n es l = false := by unfold To.isI; rw [h]; rfl
theorem To.isI_len {n : Int} {es : Gr.EI} {l : List Int} (h : (l.length : Int) ≠ n) : To.isI n es l = false := by
  unfold To.isI
  rw [decide_eq_false h, Bool.and_false]; rfl
theorem To.isI_yes {n : Int} {es : Gr.EI} {l : List Int} (h : To.okI n es = true) (hn : (l.length : Int) = n) (hp : ∀ i, i < l.length → To.placeI n es l i = true) : To.isI n es l = true := by
  unfold To.isI
  rw [h, decide_eq_true hn, Bool.true_and, Bool.true_and, List.all_eq_true]
  intro i hi
  exact hp i (by simpa using hi)
theorem To.place_out {n : Int} {es : Gr.EI} {l : List Int} {i : Nat} (h : ¬ (0 ≤ l.getD i 0 ∧ l.getD i 0 < n)) : To.placeI n es l i = false := by
  unfold To.placeI; rw [decide_eq_false h]; rfl
theorem To.place_twice {n : Int} {es : Gr.EI} {l : List Int} {i : Nat} (h : (l.take i).contains (l.getD i 0) = true) : To.placeI n es l i = false := by
  unfold To.placeI; rw [h]; simp
theorem To.place_ahead {n : Int} {es : Gr.EI} {l zs : List Int} {i k : Nat} (hz : Gr.aheadI n es (l.getD i 0) = zs) (hk : k < zs.length) (h : (l.take i).contains (zs.getD k 0) = false) : To.placeI n es l i = false := by
  unfold To.placeI
  rw [hz]
  have : (zs.all fun a => (l.take i).contains a) = false := by
    rw [List.all_eq_false]
    refine ⟨zs.getD k 0, mem_at hk rfl, by rw [h]; simp⟩
  rw [this, Bool.and_false]
theorem To.place_yes {n : Int} {es : Gr.EI} {l zs : List Int} {i : Nat} (hr : 0 ≤ l.getD i 0 ∧ l.getD i 0 < n) (ht : (l.take i).contains (l.getD i 0) = false) (hz : Gr.aheadI n es (l.getD i 0) = zs) (h : ∀ k, k < zs.length → (l.take i).contains (zs.getD k 0) = true) : To.placeI n es l i = true := by
  unfold To.placeI
  rw [decide_eq_true hr, ht, hz]
  simp only [Bool.not_false, Bool.true_and]
  rw [List.all_eq_true]
  intro a ha
  obtain ⟨k, hk, e⟩ := List.getElem_of_mem ha
  have := h k hk
  rw [List.getD_eq_getElem?_getD, List.getElem?_eq_getElem hk] at this
  simp only [Option.getD_some] at this
  rw [← e]; exact this
set_option maxRecDepth 100000 in
set_option maxHeartbeats 8000000 in
theorem refIs_any (n : Int) (A : Option Addr) (es : Gr.EI) (cap : Nat) (A2 : Option Addr) (ls : List Int) (cap2 : Nat) (hl : es.length ≤ 1000000) (hl2 : ls.length ≤ 1000000) (hc2 : ls.length ≤ cap2) (w : World) (h : Edg w w.heap.size A es) (h2 : Zs w w.heap.size A2 ls) :
    Calls Try.prog 19 #[.agg #[.int .i64 n, .slice A es.length cap], .slice A2 ls.length cap2] w (BoolG w (To.isI n es ls)) := by
  have OR : Hid (∀ W, Below w.heap.size w W → Calls Try.prog 16 #[.agg #[.int .i64 n, .slice A es.length cap]] W (OptG W (To.orderI n es))) := Lib.hid fun W hW => refOrder_any n A es cap hl W (h.on hW)
  have AH : Hid (∀ W v, Below w.heap.size w W → Calls Try.prog 33 #[.agg #[.int .i64 n, .slice A es.length cap], .int .i64 v] W (ListG W (Gr.aheadI n es v))) := Lib.hid fun W v hW => refAhead_any n A es cap v hl W (h.on hW)
  have LS := Lib.hid h2
  generalize es.length = l at *
  obtain ⟨m, hm⟩ : ∃ m, m = ls.length := ⟨_, rfl⟩
  have HM := Lib.hid hm
  rw [← hm] at hl2 hc2 ⊢
  clear h hl h2 hm
  obtain ⟨W1, hW1⟩ : ∃ W1, W1 = w.alloc (.cells #[.int .i64 n, .slice A l cap] 39) := ⟨_, rfl⟩
  have P1 : Hid (W1.heap[w.heap.size]? = some (.cells #[.int .i64 n, .slice A l cap] 39 (0, 0))) := Lib.hid (by rw [hW1]; exact heap_alloc_new ..)
  have B1 : Hid (Below w.heap.size w W1) := Lib.hid (by rw [hW1]; exact (Below.refl _ _).alloc (Nat.le_refl _) _)
  obtain ⟨⟨x0, x1⟩, -⟩ := obG P1.out
  cases hg : To.okI n es with
  | false =>
    have OR1 : Hid (Calls Try.prog 16 #[.agg #[.int .i64 n, .slice A l cap]] W1 (OptN W1)) := Lib.hid ((OR.out _ B1.out).mono fun e w' h => by rw [To.orderI_no hg] at h; exact h.no)
    have E : Hid (To.isI n es ls = false) := Lib.hid (To.isI_bad hg)
    clear hg
    go_enter Try.func19, Try.ntmps19
    go_wp2_with fail
    rw [← hW1]
    clear hW1
    (with_reducible refine OR1.out.mono ?_); rintro e w2 ⟨A3, c3, rfl, b2⟩
    go_wp2
    go_ret
    exact ⟨ret_bool E.out.symm, Lib.hid (B1.out.trans (b2.out.mono B1.out.size))⟩
  | true =>
    obtain ⟨o, ho, hoI, HO0, hlen⟩ := To.orderI_yes hg
    obtain ⟨hG, hT⟩ := To.okI_iff.1 hg
    obtain ⟨N, hN⟩ : ∃ N : Nat, n = (N : Int) := ⟨n.toNat, by have := hG.n0; omega⟩
    have hN16 : N ≤ 16 := by have := hG.n16; omega
    subst hN
    rw [Int.toNat_natCast] at HO0 hlen
    have OR1 : Hid (Calls Try.prog 16 #[.agg #[.int .i64 (N : Int), .slice A l cap]] W1 (OptY W1 (Gr.ints o) N)) := Lib.hid ((OR.out _ B1.out).mono fun e w' h => by rw [hoI] at h; exact h.yes (by rw [Gr.ints_len, hlen]))
    have OK := Lib.hid hg
    clear hg ho hoI HO0 hlen hG hT OR
    by_cases hmN : m = N
    case neg =>
      have E : Hid (To.isI (N : Int) es ls = false) := Lib.hid (To.isI_len (by rw [← HM.out]; omega))
      have hd1 : ((m : Int) == (N : Int)) = false := by rw [beq_eq_false_iff_ne]; omega
      have hd2 : ((m : Int) != (N : Int)) = true := by simp [bne, hd1]
      have hd3 : (m == N) = false := by simpa using hmN
      go_enter Try.func19, Try.ntmps19
      go_wp2_with fail
      rw [← hW1]
      clear hW1
      (with_reducible refine OR1.out.mono ?_); rintro e w2 ⟨A3, c3, rfl, z2, b2⟩
      have P2 : Hid (w2.heap[w.heap.size]? = some (.cells #[.int .i64 (N : Int), .slice A l cap] 39 (0, 0))) := Lib.hid ((b2.out.block _ (lt_of_block P1.out)).trans P1.out)
      clear x0 x1
      obtain ⟨⟨x0, x1⟩, -⟩ := obG P2.out
      go_wp2
      go_ret
      exact ⟨ret_bool E.out.symm, Lib.hid (B1.out.trans (b2.out.mono B1.out.size))⟩
    case pos =>
    subst hmN
    go_enter Try.func19, Try.ntmps19
    go_wp2_with fail
    rw [← hW1]
    clear hW1
    (with_reducible refine OR1.out.mono ?_); rintro e w2 ⟨A3, c3, rfl, z2, b2⟩
    have P2 : Hid (w2.heap[w.heap.size]? = some (.cells #[.int .i64 (m : Int), .slice A l cap] 39 (0, 0))) := Lib.hid ((b2.out.block _ (lt_of_block P1.out)).trans P1.out)
    have B2 : Hid (Below w.heap.size w w2) := Lib.hid (B1.out.trans (b2.out.mono B1.out.size))
    clear x0 x1
    obtain ⟨⟨x0, x1⟩, -⟩ := obG P2.out
    have PX : Hid (∀ W, Below w2.heap.size w2 W → (W.cell? ⟨w.heap.size, 0, none⟩ = some (.int .i64 (m : Int)) ∧ W.cell? ⟨w.heap.size, 1, none⟩ = some (.slice A l cap))) := Lib.hid fun W hW =>
      (obG ((hW.block _ (lt_of_block P2.out)).trans P2.out)).1
    have BX : Hid (∀ W, Below w2.heap.size w2 W → Below w.heap.size w W) := Lib.hid fun W hW => B2.out.trans (hW.mono B2.out.size)
    have INL : Hid (∀ W, Below w2.heap.size w2 W → ∀ k x, k ≤ m → Calls Try.prog 34 #[.slice A2 k cap2, .int .i64 x] W (BoolG W ((ls.take k).contains x))) := Lib.hid fun W hW k x hk => by
      have hl : (ls.take k).length = k := by rw [List.length_take, ← HM.out]; omega
      have := refIn_any A2 (ls.take k) cap2 x (by rw [hl]; omega) W ((LS.out.take k).on (BX.out _ hW))
      rwa [hl] at this
    clear z2 b2 OR1 P1 B1
    go_wp2_with fail
    clear x0 x1
    go_loopw [7] (fun iv wr => ∃ i : Nat, i ≤ m ∧ iv = .int .i64 i ∧ Hid (∀ j, j < i → To.placeI (m : Int) es ls j = true) ∧ Hid (Below w2.heap.size w2 wr)) (fun iv _ => m - (intOf iv).toNat)
    case atStart => exact ⟨0, Nat.zero_le _, rfl, Lib.hid (fun j hj => by omega), Lib.hid (Below.refl _ _)⟩
    case round =>
      obtain ⟨i, hi, rfl, HP, HB⟩ := hrel
      obtain ⟨wo, hwo⟩ : ∃ wo, wo = wr := ⟨_, rfl⟩
      rw [← hwo] at HB ⊢
      clear hwo
      by_cases hlt : i < m
      · have hlt' : (i : Int) < (m : Int) := by omega
        obtain ⟨x0, x1⟩ := PX.out _ HB.out
        obtain ⟨b0, off, x, rfl, hb, hc, hx, hx0, hx1⟩ := (LS.out.below (BX.out _ HB.out)).at_ (k := i) (by rw [← HM.out]; exact hlt)
        have SL := fun W => slice_toZ (some ⟨b0, off, none⟩) m cap2 i (by omega) .i64 W
        by_cases c1 : x < 0
        · have hd1 : decide (x < 0) = true := decide_eq_true c1
          have E : Hid (To.isI (m : Int) es ls = false) := Lib.hid (To.isI_no (i := i) (by rw [← HM.out]; exact hlt) (To.place_out (by rw [hx.out]; omega)))
          clear hx
          go_wp2_with fail
          go_quiet (fail)
          go_wp2
          go_ret
          exact ⟨ret_bool E.out.symm, Lib.hid (below_n (BX.out _ HB.out) _)⟩
        have hd1 : decide (x < 0) = false := decide_eq_false c1
        by_cases c2 : x < (m : Int)
        case neg =>
          have hd2 : decide ((m : Int) ≤ x) = true := decide_eq_true (by omega)
          have E : Hid (To.isI (m : Int) es ls = false) := Lib.hid (To.isI_no (i := i) (by rw [← HM.out]; exact hlt) (To.place_out (by rw [hx.out]; omega)))
          clear hx
          go_wp2_with fail
          go_quiet (fail)
          go_wp2
          go_ret
          exact ⟨ret_bool E.out.symm, Lib.hid (below_n (BX.out _ HB.out) _)⟩
        case pos =>
        have hd2 : decide ((m : Int) ≤ x) = false := decide_eq_false (by omega)
        have S0 := Lib.hid (And.intro x0 (And.intro x1 hc))
        have CQ : Hid (∀ W, Below w2.heap.size w2 W → W.cell? ⟨b0, off + i, none⟩ = some (.int .i64 x)) := Lib.hid fun W hW => ((BX.out _ hW).cell (p := ⟨b0, off + i, none⟩) hb.out).trans (((BX.out _ HB.out).cell (p := ⟨b0, off + i, none⟩) hb.out).symm.trans hc)
        have I1 : Hid (Calls Try.prog 34 #[.slice (some ⟨b0, off, none⟩) i cap2, .int .i64 x] wo.drew (BoolG wo.drew ((ls.take i).contains x))) := Lib.hid (INL.out _ HB.out.drew i x (by omega))
        cases hct : (ls.take i).contains x with
        | true =>
          rw [hct] at I1
          have E : Hid (To.isI (m : Int) es ls = false) := Lib.hid (To.isI_no (i := i) (by rw [← HM.out]; exact hlt) (To.place_twice (by rw [hx.out]; exact hct)))
          clear hx hct
          go_wp2_with fail
          go_region_held3 (fun w' => w'.cell? ⟨w.heap.size, 0, none⟩ = some (.int .i64 (m : Int)) ∧ w'.cell? ⟨w.heap.size, 1, none⟩ = some (.slice A l cap) ∧ w'.cell? ⟨b0, off + i, none⟩ = some (.int .i64 x)) ((first | exact S0.out | exact S5.out | go_keep))
            (first
              | (go_simp; go_at_call 34; (with_reducible refine I1.out.mono ?_); rintro e w5 ⟨rfl, b5⟩; have B5 : Hid (Below w2.heap.size w2 w5) := Lib.hid ((HB.out.drew).trans (b5.out.mono HB.out.size)); have S5 := Lib.hid (And.intro (PX.out _ B5.out).1 (And.intro (PX.out _ B5.out).2 (CQ.out _ B5.out)))))
          go_wp2
          go_ret
          exact ⟨ret_bool E.out.symm, Lib.hid (BX.out _ B5.out)⟩
        | false =>
          rw [hct] at I1
          have HX := Lib.hid hx.out
          have HCT := Lib.hid hct
          clear hx hct
          go_wp2_with fail
          go_region_held3 (fun w' => w'.cell? ⟨w.heap.size, 0, none⟩ = some (.int .i64 (m : Int)) ∧ w'.cell? ⟨w.heap.size, 1, none⟩ = some (.slice A l cap) ∧ w'.cell? ⟨b0, off + i, none⟩ = some (.int .i64 x)) ((first | exact S0.out | exact S5.out | go_keep))
            (first
              | (go_simp; go_at_call 34; (with_reducible refine I1.out.mono ?_); rintro e w5 ⟨rfl, b5⟩; have B5 : Hid (Below w2.heap.size w2 w5) := Lib.hid ((HB.out.drew).trans (b5.out.mono HB.out.size)); have S5 := Lib.hid (And.intro (PX.out _ B5.out).1 (And.intro (PX.out _ B5.out).2 (CQ.out _ B5.out)))))
          obtain ⟨zs, hzs⟩ : ∃ zs, zs = Gr.aheadI (m : Int) es x := ⟨_, rfl⟩
          have ZE : Hid (Gr.aheadI (m : Int) es (ls.getD i 0) = zs) := Lib.hid (by rw [HX.out, hzs])
          obtain ⟨lz, hlz⟩ : ∃ lz, lz = zs.length := ⟨_, rfl⟩
          have hlz16 : lz ≤ 16 := by rw [hlz, hzs]; exact To.ahead16 _ _ _
          have LZ := Lib.hid hlz
          have A1 : Hid (Calls Try.prog 33 #[.agg #[.int .i64 (m : Int), .slice A l cap], .int .i64 x] w5.drew (ListG w5.drew zs)) := Lib.hid (by rw [hzs]; exact AH.out _ _ (BX.out _ B5.out.drew))
          have S6 := Lib.hid S5.out
          obtain ⟨x0, x1, hc⟩ := S5.out
          clear hzs hlz S0 S5 I1 b5
          go_wp2_with fail
          go_region_held3 (fun w' => w'.cell? ⟨w.heap.size, 0, none⟩ = some (.int .i64 (m : Int)) ∧ w'.cell? ⟨w.heap.size, 1, none⟩ = some (.slice A l cap) ∧ w'.cell? ⟨b0, off + i, none⟩ = some (.int .i64 x)) ((first | exact S6.out | exact S7.out | go_keep))
            (first
              | (go_simp; go_at_call 33; (with_reducible refine A1.out.mono ?_); rintro e w7 ⟨A7, c7, rfl, o7, b7⟩; have B7 : Hid (Below w2.heap.size w2 w7) := Lib.hid ((B5.out.drew).trans (b7.out.mono B5.out.size)); have S7 := Lib.hid (And.intro (PX.out _ B7.out).1 (And.intro (PX.out _ B7.out).2 (CQ.out _ B7.out)))))
          rw [← LZ.out]
          have Z7 : Hid (Zs w7 w7.heap.size A7 zs) := Lib.hid o7.out.zs
          clear o7 b7 S6 S7 x0 x1 hc A1
          go_wp2_with fail
          go_loopw [9] (fun iv wr => ∃ k : Nat, k ≤ lz ∧ iv = .int .i64 k ∧ Hid (∀ j, j < k → (ls.take i).contains (zs.getD j 0) = true) ∧ Hid (Below w7.heap.size w7 wr)) (fun iv _ => lz - (intOf iv).toNat)
          case atStart => exact ⟨0, Nat.zero_le _, rfl, Lib.hid (fun j hj => by omega), Lib.hid (Below.refl _ _)⟩
          case round =>
            obtain ⟨k, hk, rfl, HK, HB7⟩ := hrel
            have BR : Hid (Below w2.heap.size w2 wr) := Lib.hid (B7.out.trans (HB7.out.mono B7.out.size))
            by_cases hlk : k < lz
            · have hlk' : (k : Int) < (lz : Int) := by omega
              obtain ⟨b7, o7, y, rfl, hb7, hc7, hy, hy0, hy1⟩ := (Z7.out.below HB7.out).at_ (k := k) (by rw [← LZ.out]; exact hlk)
              have I2 : Hid (Calls Try.prog 34 #[.slice (some ⟨b0, off, none⟩) i cap2, .int .i64 y] wr.drew (BoolG wr.drew ((ls.take i).contains y))) := Lib.hid (INL.out _ BR.out.drew i y (by omega))
              have C7 : Hid (∀ W, Below wr.drew.heap.size wr.drew W → W.cell? ⟨b7, o7 + k, none⟩ = some (.int .i64 y)) := Lib.hid fun W hW => (hW.cell (p := ⟨b7, o7 + k, none⟩) (Nat.lt_of_lt_of_le hb7.out HB7.out.size)).trans hc7
              have S8 := Lib.hid hc7
              have HY := Lib.hid hy.out
              cases hcy : (ls.take i).contains y with
              | true =>
                rw [hcy] at I2
                have HK' : Hid (∀ j, j < k + 1 → (ls.take i).contains (zs.getD j 0) = true) := Lib.hid fun j hj => by
                  rcases Nat.lt_or_ge j k with h | h
                  · exact HK.out j h
                  · obtain rfl : j = k := by omega
                    rw [HY.out]; exact hcy
                clear hy hcy HY
                go_wp2_with fail
                go_region_held3 (fun w' => w'.cell? ⟨b7, o7 + k, none⟩ = some (.int .i64 y)) ((first | exact S8.out | exact S9.out | go_keep))
                  (first
                    | (go_simp; go_at_call 34; (with_reducible refine I2.out.mono ?_); rintro e w9 ⟨rfl, b9⟩; have B9 := Lib.hid b9.out; have S9 := Lib.hid (C7.out _ B9.out); clear b9))
                go_wp2
                go_roundw
                case rel => exact ⟨k + 1, by omega, by go_num, HK', Lib.hid (HB7.out.drew.trans (B9.out.mono HB7.out.size))⟩
                case measure => simp [intOf]; omega
              | false =>
                rw [hcy] at I2
                have E : Hid (To.isI (m : Int) es ls = false) := Lib.hid (To.isI_no (i := i) (by rw [← HM.out]; exact hlt) (To.place_ahead ZE.out (k := k) (by rw [← LZ.out]; exact hlk) (by rw [HY.out]; exact hcy)))
                clear hy hcy HY
                go_wp2_with fail
                go_region_held3 (fun w' => w'.cell? ⟨b7, o7 + k, none⟩ = some (.int .i64 y)) ((first | exact S8.out | exact S9.out | go_keep))
                  (first
                    | (go_simp; go_at_call 34; (with_reducible refine I2.out.mono ?_); rintro e w9 ⟨rfl, b9⟩; have B9 := Lib.hid b9.out; have S9 := Lib.hid (C7.out _ B9.out); clear b9))
                go_wp2
                go_ret
                exact ⟨ret_bool E.out.symm, Lib.hid (BX.out _ (BR.out.drew.trans (B9.out.mono BR.out.size)))⟩
            · obtain rfl : lz = k := by omega
              have P' : Hid (∀ j, j < i + 1 → To.placeI (m : Int) es ls j = true) := Lib.hid fun j hj => by
                rcases Nat.lt_or_ge j i with h | h
                · exact HP.out j h
                · obtain rfl : j = i := by omega
                  exact To.place_yes (by rw [HX.out]; exact ⟨by omega, c2⟩) (by rw [HX.out]; exact HCT.out) ZE.out (by rw [← LZ.out]; exact HK.out)
              go_wp2
              go_roundw
              case rel => exact ⟨i + 1, by omega, by go_num, P', BR⟩
              case measure => simp [intOf]; omega
      · obtain rfl : m = i := by omega
        have E : Hid (To.isI (m : Int) es ls = true) := Lib.hid (To.isI_yes OK.out (by rw [← HM.out]) (by rw [← HM.out]; exact HP.out))
        go_wp2
        go_ret
        exact ⟨ret_bool E.out.symm, Lib.hid (BX.out _ HB.out)⟩
end Go.Proofs.Ytgeefkfolejbnaa
