/-
  The law EpochsTells: the epoch of each record is told by the table of all; cut, of those that are left.
-/
import Derived.Test.YtfidakogpgdnjaaEpAwake
import Derived.Test.YtfidakogpgdnjaaEpCut
namespace Go.Proofs.Ytfidakogpgdnjaa
open Go.RowKit
theorem and3_u8 (z : Int) (h0 : 0 ≤ z) (h1 : z ≤ 255) : bits .and .u8 z 3 = z % 4 := by
  have h := u8_and z 3 h0 (by omega) (by omega) (by omega)
  rw [h]
  obtain ⟨n, rfl⟩ := Int.eq_ofNat_of_zero_le h0
  have e : n &&& 3 = n % 4 := Nat.and_two_pow_sub_one_eq_mod n 2
  show ((n &&& 3 : Nat) : Int) = _
  rw [e]; omega
theorem pack_parts (e o : Int) (h0 : 0 ≤ e) (h1 : e ≤ 1048575) (h2 : 0 ≤ o) (h3 : o ≤ 17592186044415) : Pl.epochV (Pl.packV e o) = e ∧ Pl.offV (Pl.packV e o) = o ∧ 0 ≤ Pl.packV e o ∧ Pl.packV e o < 18446744073709551616 := by
  have hv : Pl.packV e o = e * 17592186044416 + o := by unfold Pl.packV Pl.packOk; simp [h0, h1, h2, h3]
  rw [hv]
  unfold Pl.epochV Pl.offV
  omega
/-- The log that a law has built: its stamps, its table. -/
structure Built (zs L : List Int) (ep : Int) : Prop where
  log : Ep.Log (zs.map Pl.epochV) L
  of : Ep.ofV zs = some (L, (zs.length : Int))
  last : Ep.lastE L ≤ ep
theorem Built.nil (ep : Int) (h : 0 ≤ ep) : Built [] [] ep := ⟨Ep.Log.nil, rfl, by unfold Ep.lastE; simp; omega⟩
theorem Built.snoc {zs L : List Int} {ep : Int} (h : Built zs L ep) (e : Int) (he : ep ≤ e) (h0 : 0 ≤ e) (h1 : e ≤ 1048575) (hn : zs.length ≤ 1000) : Built (zs ++ [Pl.packV e zs.length]) (Ep.extL L (Pl.packV e zs.length)) e := by
  obtain ⟨p1, p2, p3, p4⟩ := pack_parts e zs.length h0 h1 (by omega) (by omega)
  have hlast := h.last
  refine ⟨?_, ?_, ?_⟩
  · rw [List.map_append]
    exact h.log.snoc _ (by rw [p2, List.length_map]) (by rw [p1]; omega) (by rw [List.length_map]; omega) (by rw [p1]; exact h0)
  · rw [Ep.ofV_snoc h.of (by rw [p2]) (by rw [p1]; omega)]
    simp
  · unfold Ep.extL
    split
    · rw [Ep.lastE_snoc, p1]; exact Int.le_refl _
    · omega
theorem Built.weak {zs L : List Int} {ep e : Int} (h : Built zs L ep) (he : ep ≤ e) : Built zs L e := ⟨h.log, h.of, Int.le_trans h.last he⟩
theorem map_getD (zs : List Int) (i : Nat) (h : i < zs.length) : (zs.map Pl.epochV).getD i 0 = Pl.epochV (zs.getD i 0) := by
  rw [Ep.getD_eq (by simpa using h), Ep.getD_eq h, List.getElem_map]
/-- A valid table has no more stamps than its End says. -/
theorem len_leG {l : List Int} {n : Nat} (h : Ep.G l n) : l.length ≤ n := by
  have hk : ∀ i, i < l.length → (i : Int) ≤ Pl.offV (l.getD i 0) := by
    intro i
    induction i with
    | zero => intro _; exact (Ep.off_range _).1
    | succ i ih =>
      intro hi
      have h1 := ih (by omega)
      have h2 := (List.pairwise_iff_getElem.1 h.asc i (i + 1) (by omega) hi (by omega)).2
      rw [Ep.getD_eq (by omega)] at h1
      rw [Ep.getD_eq hi]
      omega
  rcases Nat.eq_zero_or_pos l.length with h0 | h0
  · omega
  · have h1 := hk (l.length - 1) (by omega)
    rw [Ep.getD_eq (by omega)] at h1
    have h2 := h.off _ (List.getElem_mem (show l.length - 1 < l.length by omega))
    omega
theorem Built.len {zs L : List Int} {ep : Int} (h : Built zs L ep) : L.length ≤ zs.length := by
  have hg := h.log.g
  rw [List.length_map] at hg
  exact len_leG hg
set_option maxHeartbeats 4000000 in
set_option maxRecDepth 20000 in
theorem tells_on (A : Option Addr) (bs : List Int) (cap : Nat) (c : Int) (hn : bs.length ≤ 40) (c0 : -9223372036854775808 ≤ c) (c1 : c ≤ 9223372036854775807) (w : World) (h : Bytes w w.heap.size A bs) :
    Calls Try.prog 5 #[.slice A bs.length cap, .int .i64 c] w fun e w' => e = .returned (.bool true) ∧ Below w.heap.size w w' := by
  have H := Lib.hid h
  obtain ⟨n, hnn⟩ : ∃ n, n = bs.length := ⟨_, rfl⟩
  rw [← hnn] at hn ⊢
  have HN := Lib.hid hnn
  have hn' : (n : Int) ≤ 40 := by omega
  clear h hnn
  go_enter Try.func5, Try.ntmps5
  go_wp2_with fail
  (with_reducible refine (awake_any _).mono ?_); rintro e w1 ⟨rfl, b1⟩
  go_wp2
  go_loopw [5, 6, 7] (fun lv ev iv wr => ∃ (k : Nat) (zs L : List Int) (ep : Int) (A' : Option Addr) (c' : Nat), k ≤ n ∧ iv = .int .i64 k ∧ ev = .int .i64 ep ∧ lv = .slice A' zs.length c' ∧ 1 ≤ ep ∧ ep ≤ 1 + (k : Int) ∧ Hid (zs.length = k) ∧ Hid (Built zs L ep) ∧ Hid (Below w.heap.size w wr) ∧ Hid (OwnS wr w.heap.size A' c' zs)) (fun _ _ iv _ => n - (intOf iv).toNat)
  case atStart => exact ⟨0, [], [], 1, none, 0, Nat.zero_le _, rfl, rfl, rfl, by omega, by omega, Lib.hid rfl, Lib.hid (Built.nil 1 (by omega)), b1, Lib.hid (OwnS.none_ _ _)⟩
  case round =>
    obtain ⟨k, zs, L, ep, A', c', hk, rfl, rfl, rfl, he0, he1, HZ, HB, BW, OW⟩ := hrel
    by_cases hlt : k < n
    · have hlt' : (k : Int) < (n : Int) := by omega
      obtain ⟨b, off, z, rfl, hb, hc, hz, z0, z1⟩ := (H.out.below BW.out).at_ (k := k) (by rw [← HN.out]; exact hlt)
      obtain ⟨t, ht, t0, t1⟩ : ∃ t, bits .and .u8 z 3 = t ∧ 0 ≤ t ∧ t ≤ 3 := ⟨z % 4, and3_u8 z z0 z1, by omega, by omega⟩
      have PK : Hid (∀ W, Calls Try.prog 9 #[.int .i64 (ep + t / 2), .int .i64 (k : Int)] W fun e w' => e = .returned (.int .u64 (Pl.packV (ep + t / 2) k)) ∧ W = w') := Lib.hid (pk_any _ _)
      have PP := Lib.hid (pack_parts (ep + t / 2) k (by omega) (by omega) (by omega) (by omega))
      have HB2 : Hid (Built (zs ++ [Pl.packV (ep + t / 2) k]) (Ep.extL L (Pl.packV (ep + t / 2) k)) (ep + t / 2)) := Lib.hid (by have := HB.out.snoc (ep + t / 2) (by omega) (by omega) (by omega) (by rw [HZ.out]; omega); rw [HZ.out] at this; exact this)
      generalize Pl.packV (ep + t / 2) k = s at *
      clear hz z0 z1 hb
      go_wp2_with fail
      (with_reducible refine (PK.out _).mono ?_); rintro e w' ⟨rfl, rfl⟩
      go_wp2_with (at_builtin; refine wp_appS rfl (.tmp 37) (.tmp 41) rfl rfl rfl (OW.out.grew ((Below.refl wr.heap.size wr).alloc (Nat.le_refl _) _) (Nat.le_refl _)) (by have := BW.out.size; simp; omega) rfl rfl (Sts.new1 wr s PP.out.2.2.1 PP.out.2.2.2 _) (by have := HZ.out; simp; omega) ?_; intro A4 cap4 w4 o4 g4; have O4 := Lib.hid o4; have G4 : Hid (Below w.heap.size w w4) := Lib.hid (((BW.out.alloc BW.out.size _)).trans g4.below); clear o4 g4)
      go_roundw
      case rel => exact ⟨k + 1, zs ++ [s], _, ep + t / 2, A4, cap4, by omega, by go_num, rfl, by simp, by omega, by omega, Lib.hid (by rw [List.length_append, HZ.out]; rfl), HB2, G4, O4⟩
      case measure => simp [intOf]; omega
    · obtain rfl : k = n := by omega
      have OF : Hid (∀ W, Below wr.heap.size wr W → Calls Try.prog 8 #[.slice A' k c'] W (TabPost W L (k : Int) true)) := Lib.hid fun W hW => by
        have := of_any A' zs c' (by rw [HZ.out]; omega) W (OW.out.sts.on hW)
        rw [HB.out.of, HZ.out] at this
        exact this
      have LL : Hid (L.length ≤ 40) := Lib.hid (Nat.le_trans HB.out.len (by rw [HZ.out]; omega))
      have LOG : Hid (Ep.Log (zs.map Pl.epochV) L) := Lib.hid HB.out.log
      have EL : Hid (((zs.map Pl.epochV).length : Int) = k) := Lib.hid (by rw [List.length_map, HZ.out])
      have CU : Hid (∀ (A2 : Option Addr) (c2 : Nat) (W : World), L.length ≤ c2 → Sts W W.heap.size A2 L → Calls Try.prog 11 #[.agg #[.slice A2 L.length c2, .int .i64 (k : Int)], .int .i64 c] W (TabPost W (Ep.cutL L k c) (Ep.cutE L k c) (decide (0 ≤ c ∧ c ≤ (k : Int))))) := Lib.hid fun A2 c2 W hc hs => by
        have := cut_any A2 L c2 k c c0 c1 (by have := LL.out; omega) hc W hs
        have e := LOG.out.cut c
        rw [EL.out] at e
        rw [e] at this
        exact this
      have SZ : Hid (Sts wr wr.heap.size A' zs) := Lib.hid OW.out.sts
      clear OW HB HN
      generalize hzz : zs.length = m
      obtain rfl : m = k := hzz.symm.trans HZ.out
      clear hzz
      go_wp2_with fail
      (with_reducible refine (OF.out _ (Below.refl _ _)).mono ?_); rintro e w2 ⟨A2, c2, rfl, o2, b2⟩
      have CU2 : Hid (∀ (W : World), Below w2.heap.size w2 W → Calls Try.prog 11 #[.agg #[.slice A2 L.length c2, .int .i64 (m : Int)], .int .i64 c] W (TabPost W (Ep.cutL L m c) (Ep.cutE L m c) (decide (0 ≤ c ∧ c ≤ (m : Int))))) := Lib.hid fun W hW => CU.out A2 c2 W o2.out.cap_ (o2.out.sts.on hW)
      have SZ2 : Hid (Sts w2 w2.heap.size A' zs) := Lib.hid (SZ.out.on b2.out)
      have ST2 : Hid (Sts w2 w2.heap.size A2 L) := Lib.hid o2.out.sts
      have BB2 : Hid (Below w.heap.size w w2) := Lib.hid (BW.out.trans (b2.out.mono BW.out.size))
      clear o2 b2 CU SZ OF H BW
      obtain ⟨q, hq⟩ : ∃ q, L.length = q := ⟨_, rfl⟩
      have HQ := Lib.hid hq
      rw [hq] at CU2 ⊢
      clear hq
      go_wp2_with fail
      (with_reducible refine (CU2.out _ ((Below.refl _ _).alloc (Nat.le_refl _) _)).mono ?_); rintro e w3 ⟨A3, c3, rfl, o3, b3⟩
      have T3 : Hid (w3.heap[w2.heap.size]? = some (.cells #[.slice A2 q c2, .int .i64 (m : Int)] 25 (0, 0))) := Lib.hid ((b3.out.block _ (by simp)).trans (heap_alloc_new w2 _))
      have SZ3 : Hid (Sts w3 w3.heap.size A' zs) := Lib.hid ((SZ2.out.on ((Below.refl _ _).alloc (Nat.le_refl _) _)).on b3.out)
      have ST3 : Hid (Sts w3 w3.heap.size A2 L) := Lib.hid ((ST2.out.on ((Below.refl _ _).alloc (Nat.le_refl _) _)).on b3.out)
      have SU3 : Hid (Sts w3 w3.heap.size A3 (Ep.cutL L m c)) := Lib.hid o3.out.sts
      have BB3 : Hid (Below w.heap.size w w3) := Lib.hid ((BB2.out.alloc BB2.out.size _).trans (b3.out.mono (by have := BB2.out.size; simp; omega)))
      clear b3 o3 CU2 SZ2 ST2 BB2
      obtain ⟨X, hX⟩ : ∃ X, X = w2.heap.size := ⟨_, rfl⟩
      rw [← hX] at T3 ⊢
      clear hX
      obtain ⟨W3, hW3⟩ : ∃ W3, W3 = w3.alloc (.cells #[.slice A3 (Ep.cutL L m c).length c3, .int .i64 (Ep.cutE L m c)] 25) := ⟨_, rfl⟩
      have BW3 : Hid (Below w3.heap.size w3 W3) := Lib.hid (by rw [hW3]; exact (Below.refl _ _).alloc (Nat.le_refl _) _)
      have UU : Hid (W3.heap[w3.heap.size]? = some (.cells #[.slice A3 (Ep.cutL L m c).length c3, .int .i64 (Ep.cutE L m c)] 25 (0, 0))) := Lib.hid (by rw [hW3]; exact heap_alloc_new ..)
      have TT : Hid (W3.heap[X]? = some (.cells #[.slice A2 q c2, .int .i64 (m : Int)] 25 (0, 0))) := Lib.hid ((BW3.out.block _ (lt_of_block T3.out)).trans T3.out)
      have tc := (ob2 TT.out).1.2
      rw [hW3] at tc
      have BB4 : Hid (Below w.heap.size w W3) := Lib.hid (BB3.out.trans (BW3.out.mono BB3.out.size))
      have SZ4 : Hid (Sts W3 W3.heap.size A' zs) := Lib.hid (SZ3.out.on BW3.out)
      have ST4 : Hid (Sts W3 W3.heap.size A2 L) := Lib.hid (ST3.out.on BW3.out)
      have SU4 : Hid (Sts W3 W3.heap.size A3 (Ep.cutL L m c)) := Lib.hid (SU3.out.on BW3.out)
      have HL1 : Hid (L.length ≤ 40) := LL
      have CL : Hid ((Ep.cutL L m c).length ≤ 40) := Lib.hid (by
        unfold Ep.cutL
        split
        · rw [List.length_take]; have := HL1.out; omega
        · simp)
      have AT : Hid (∀ (W : World) (k : Nat), k < m → Below W3.heap.size W3 W → Calls Try.prog 10 #[.agg #[.slice A2 L.length c2, .int .i64 (m : Int)], .int .i64 (k : Int)] W (AtPost W (Pl.epochV (zs.getD k 0)) true)) := Lib.hid fun W k hk hW => by
        have := at_any A2 L c2 m k (by omega) (by omega) (by have := HL1.out; omega) W (ST4.out.on hW)
        have e := LOG.out.tells k (by rw [List.length_map, HZ.out]; exact hk)
        rw [EL.out] at e
        rw [e.1, e.2, map_getD zs k (by rw [HZ.out]; exact hk)] at this
        exact this
      have AU : Hid (∀ (W : World) (k : Nat), k < m → Below W3.heap.size W3 W → Calls Try.prog 10 #[.agg #[.slice A3 (Ep.cutL L m c).length c3, .int .i64 (Ep.cutE L m c)], .int .i64 (k : Int)] W (AtPost W (Ep.atV (Ep.cutL L m c) (Ep.cutE L m c) k) (Ep.inAt (Ep.cutL L m c) (Ep.cutE L m c) k))) := Lib.hid fun W k hk hW => at_any A3 _ c3 _ k (by omega) (by omega) (by have := CL.out; omega) W (SU4.out.on hW)
      have CT : Hid (0 ≤ c → c ≤ (m : Int) → ∀ k, k < m → Ep.inAt (Ep.cutL L m c) (Ep.cutE L m c) k = decide ((k : Int) < c) ∧ ((k : Int) < c → Ep.atV (Ep.cutL L m c) (Ep.cutE L m c) k = Pl.epochV (zs.getD k 0))) := Lib.hid fun h0 h1 k hk => by
        have := LOG.out.cut_tells c h0 (by rw [EL.out]; exact h1) k (by rw [List.length_map, HZ.out]; exact hk)
        rw [EL.out, map_getD zs k (by rw [HZ.out]; exact hk)] at this
        exact this
      rw [HQ.out] at AT
      clear SZ3 ST3 SU3 BB3 T3 ST4 SU4 HL1 CL LOG LL HQ
      generalize (Ep.cutL L m c).length = r at *
      generalize Ep.cutE L m c = ue at *
      by_cases hc0 : 0 ≤ c
      · by_cases hc1 : c ≤ (m : Int)
        · by_cases hm0 : 0 < (m : Int)
          · go_wp2_with fail
            rw [← hW3]
            clear tc hW3 BW3
            generalize w3.heap.size = Y at *
            go_loopw [12] (fun iv wr => ∃ k : Nat, k ≤ m ∧ iv = .int .i64 k ∧ Hid (Below W3.heap.size W3 wr)) (fun iv _ => m - (intOf iv).toNat)
            case atStart => exact ⟨0, Nat.zero_le _, rfl, Lib.hid (Below.refl _ _)⟩
            case round =>
              obtain ⟨k, hk, rfl, HW⟩ := hrel
              have TW : Hid (wr.heap[X]? = some (.cells #[.slice A2 q c2, .int .i64 (m : Int)] 25 (0, 0))) := Lib.hid ((HW.out.block _ (lt_of_block TT.out)).trans TT.out)
              have UW : Hid (wr.heap[Y]? = some (.cells #[.slice A3 r c3, .int .i64 ue] 25 (0, 0))) := Lib.hid ((HW.out.block _ (lt_of_block UU.out)).trans UU.out)
              by_cases hlt : k < m
              · have hlt' : (k : Int) < (m : Int) := by omega
                obtain ⟨⟨x0, x1⟩, -⟩ := ob2 TW.out
                obtain ⟨b2, off2, z, rfl, hb2, hc2, hz2, z0, z1⟩ := (SZ4.out.on HW.out).at_ (k := k) (by rw [HZ.out]; exact hlt)
                have E1 := epoch_any z z0 z1
                have AT1 := Lib.hid (AT.out wr k hlt HW.out)
                rw [hz2.out] at AT1
                have AU1 := Lib.hid (fun W hW => AU.out W k hlt hW)
                have CT1 : Hid (Ep.inAt (Ep.cutL L m c) ue k = decide ((k : Int) < c) ∧ ((k : Int) < c → Ep.atV (Ep.cutL L m c) ue k = Pl.epochV (zs.getD k 0))) := Lib.hid (CT.out hc0 hc1 k hlt)
                rw [hz2.out] at CT1
                generalize Pl.epochV z = ez at *
                generalize Ep.inAt (Ep.cutL L m c) ue k = ia at *
                generalize Ep.atV (Ep.cutL L m c) ue k = va at *
                clear hz2 z0 z1 AT AU CT
                by_cases hkc : (k : Int) < c
                · obtain rfl : ia = true := by rw [CT1.out.1, decide_eq_true hkc]
                  obtain rfl : va = ez := CT1.out.2 hkc
                  clear CT1
                  go_wp2_with fail
                  (with_reducible refine AT1.out.mono ?_); rintro e w5 ⟨rfl, b5⟩
                  have U5 : Hid (w5.heap[Y]? = some (.cells #[.slice A3 r c3, .int .i64 ue] 25 (0, 0))) := Lib.hid ((b5.out.block _ (lt_of_block UW.out)).trans UW.out)
                  have H5 : Hid (Below W3.heap.size W3 w5) := Lib.hid (HW.out.trans (b5.out.mono HW.out.size))
                  have c5 : w5.cell? ⟨b2, off2 + k, none⟩ = some (.int .u64 z) := (b5.out.cell (p := ⟨b2, off2 + k, none⟩) hb2.out).trans hc2
                  have L5 : Hid (b2 < w5.heap.size) := Lib.hid (Nat.lt_of_lt_of_le hb2.out b5.out.size)
                  obtain ⟨⟨v0, v1⟩, -⟩ := ob2 U5.out
                  clear b5
                  go_wp2_with fail
                  (with_reducible refine (AU1.out _ H5.out).mono ?_); rintro e w6 ⟨rfl, b6⟩
                  have H6 : Hid (Below W3.heap.size W3 w6) := Lib.hid (H5.out.trans (b6.out.mono H5.out.size))
                  have c6 : w6.cell? ⟨b2, off2 + k, none⟩ = some (.int .u64 z) := (b6.out.cell (p := ⟨b2, off2 + k, none⟩) L5.out).trans c5
                  clear b6
                  go_wp2_with fail
                  (with_reducible refine (E1 _).mono ?_); rintro e w' ⟨rfl, rfl⟩
                  go_wp2
                  go_roundw
                  case rel => exact ⟨k + 1, by omega, by go_num, H6⟩
                  case measure => simp [intOf]; omega
                · obtain rfl : ia = false := by rw [CT1.out.1, decide_eq_false hkc]
                  clear CT1
                  go_wp2_with fail
                  (with_reducible refine AT1.out.mono ?_); rintro e w5 ⟨rfl, b5⟩
                  have U5 : Hid (w5.heap[Y]? = some (.cells #[.slice A3 r c3, .int .i64 ue] 25 (0, 0))) := Lib.hid ((b5.out.block _ (lt_of_block UW.out)).trans UW.out)
                  have H5 : Hid (Below W3.heap.size W3 w5) := Lib.hid (HW.out.trans (b5.out.mono HW.out.size))
                  have c5 : w5.cell? ⟨b2, off2 + k, none⟩ = some (.int .u64 z) := (b5.out.cell (p := ⟨b2, off2 + k, none⟩) hb2.out).trans hc2
                  have L5 : Hid (b2 < w5.heap.size) := Lib.hid (Nat.lt_of_lt_of_le hb2.out b5.out.size)
                  obtain ⟨⟨v0, v1⟩, -⟩ := ob2 U5.out
                  clear b5
                  go_wp2_with fail
                  (with_reducible refine (AU1.out _ H5.out).mono ?_); rintro e w6 ⟨rfl, b6⟩
                  have H6 : Hid (Below W3.heap.size W3 w6) := Lib.hid (H5.out.trans (b6.out.mono H5.out.size))
                  have c6 : w6.cell? ⟨b2, off2 + k, none⟩ = some (.int .u64 z) := (b6.out.cell (p := ⟨b2, off2 + k, none⟩) L5.out).trans c5
                  clear b6
                  go_wp2_with fail
                  (with_reducible refine (E1 _).mono ?_); rintro e w' ⟨rfl, rfl⟩
                  go_wp2
                  go_roundw
                  case rel => exact ⟨k + 1, by omega, by go_num, H6⟩
                  case measure => simp [intOf]; omega
              · obtain rfl : k = m := by omega
                clear AT AU CT
                go_wp2
                go_ret
                exact ⟨rfl, BB4.out.trans (HW.out.mono BB4.out.size)⟩
          · have hcz : (c == (0 : Int)) = true := by simp; omega
            go_wp2_with fail
            rw [← hW3]
            clear tc hW3 BW3
            generalize w3.heap.size = Y at *
            go_loopw [12] (fun iv wr => ∃ k : Nat, k ≤ m ∧ iv = .int .i64 k ∧ Hid (Below W3.heap.size W3 wr)) (fun iv _ => m - (intOf iv).toNat)
            case atStart => exact ⟨0, Nat.zero_le _, rfl, Lib.hid (Below.refl _ _)⟩
            case round =>
              obtain ⟨k, hk, rfl, HW⟩ := hrel
              have TW : Hid (wr.heap[X]? = some (.cells #[.slice A2 q c2, .int .i64 (m : Int)] 25 (0, 0))) := Lib.hid ((HW.out.block _ (lt_of_block TT.out)).trans TT.out)
              have UW : Hid (wr.heap[Y]? = some (.cells #[.slice A3 r c3, .int .i64 ue] 25 (0, 0))) := Lib.hid ((HW.out.block _ (lt_of_block UU.out)).trans UU.out)
              by_cases hlt : k < m
              · have hlt' : (k : Int) < (m : Int) := by omega
                exfalso; omega
              · obtain rfl : k = m := by omega
                clear AT AU CT
                go_wp2
                go_ret
                exact ⟨rfl, BB4.out.trans (HW.out.mono BB4.out.size)⟩
        · have hd : decide (0 ≤ c ∧ c ≤ (m : Int)) = false := decide_eq_false (fun h => hc1 h.2)
          go_wp2_with fail
          rw [← hW3]
          clear tc hW3 BW3
          generalize w3.heap.size = Y at *
          go_loopw [12] (fun iv wr => ∃ k : Nat, k ≤ m ∧ iv = .int .i64 k ∧ Hid (Below W3.heap.size W3 wr)) (fun iv _ => m - (intOf iv).toNat)
          case atStart => exact ⟨0, Nat.zero_le _, rfl, Lib.hid (Below.refl _ _)⟩
          case round =>
            obtain ⟨k, hk, rfl, HW⟩ := hrel
            have TW : Hid (wr.heap[X]? = some (.cells #[.slice A2 q c2, .int .i64 (m : Int)] 25 (0, 0))) := Lib.hid ((HW.out.block _ (lt_of_block TT.out)).trans TT.out)
            have UW : Hid (wr.heap[Y]? = some (.cells #[.slice A3 r c3, .int .i64 ue] 25 (0, 0))) := Lib.hid ((HW.out.block _ (lt_of_block UU.out)).trans UU.out)
            by_cases hlt : k < m
            · have hlt' : (k : Int) < (m : Int) := by omega
              obtain ⟨⟨x0, x1⟩, -⟩ := ob2 TW.out
              obtain ⟨b2, off2, z, rfl, hb2, hc2, hz2, z0, z1⟩ := (SZ4.out.on HW.out).at_ (k := k) (by rw [HZ.out]; exact hlt)
              have E1 := epoch_any z z0 z1
              have AT1 := Lib.hid (AT.out wr k hlt HW.out)
              rw [hz2.out] at AT1
              have AU1 := Lib.hid (fun W hW => AU.out W k hlt hW)
              have CT1 : Hid (zs.getD k 0 = zs.getD k 0) := Lib.hid rfl
              rw [hz2.out] at CT1
              generalize Pl.epochV z = ez at *
              generalize Ep.inAt (Ep.cutL L m c) ue k = ia at *
              generalize Ep.atV (Ep.cutL L m c) ue k = va at *
              clear hz2 z0 z1 AT AU CT
              go_wp2_with fail
              (with_reducible refine AT1.out.mono ?_); rintro e w5 ⟨rfl, b5⟩
              have U5 : Hid (w5.heap[Y]? = some (.cells #[.slice A3 r c3, .int .i64 ue] 25 (0, 0))) := Lib.hid ((b5.out.block _ (lt_of_block UW.out)).trans UW.out)
              have H5 : Hid (Below W3.heap.size W3 w5) := Lib.hid (HW.out.trans (b5.out.mono HW.out.size))
              have c5 : w5.cell? ⟨b2, off2 + k, none⟩ = some (.int .u64 z) := (b5.out.cell (p := ⟨b2, off2 + k, none⟩) hb2.out).trans hc2
              have L5 : Hid (b2 < w5.heap.size) := Lib.hid (Nat.lt_of_lt_of_le hb2.out b5.out.size)
              obtain ⟨⟨v0, v1⟩, -⟩ := ob2 U5.out
              clear b5
              go_wp2_with fail
              (with_reducible refine (AU1.out _ H5.out).mono ?_); rintro e w6 ⟨rfl, b6⟩
              have H6 : Hid (Below W3.heap.size W3 w6) := Lib.hid (H5.out.trans (b6.out.mono H5.out.size))
              have c6 : w6.cell? ⟨b2, off2 + k, none⟩ = some (.int .u64 z) := (b6.out.cell (p := ⟨b2, off2 + k, none⟩) L5.out).trans c5
              clear b6
              go_wp2_with fail
              (with_reducible refine (E1 _).mono ?_); rintro e w' ⟨rfl, rfl⟩
              go_wp2
              go_roundw
              case rel => exact ⟨k + 1, by omega, by go_num, H6⟩
              case measure => simp [intOf]; omega
            · obtain rfl : k = m := by omega
              clear AT AU CT
              go_wp2
              go_ret
              exact ⟨rfl, BB4.out.trans (HW.out.mono BB4.out.size)⟩
      · have hd : decide (0 ≤ c ∧ c ≤ (m : Int)) = false := decide_eq_false (fun h => hc0 h.1)
        go_wp2_with fail
        rw [← hW3]
        clear tc hW3 BW3
        generalize w3.heap.size = Y at *
        go_loopw [12] (fun iv wr => ∃ k : Nat, k ≤ m ∧ iv = .int .i64 k ∧ Hid (Below W3.heap.size W3 wr)) (fun iv _ => m - (intOf iv).toNat)
        case atStart => exact ⟨0, Nat.zero_le _, rfl, Lib.hid (Below.refl _ _)⟩
        case round =>
          obtain ⟨k, hk, rfl, HW⟩ := hrel
          have TW : Hid (wr.heap[X]? = some (.cells #[.slice A2 q c2, .int .i64 (m : Int)] 25 (0, 0))) := Lib.hid ((HW.out.block _ (lt_of_block TT.out)).trans TT.out)
          have UW : Hid (wr.heap[Y]? = some (.cells #[.slice A3 r c3, .int .i64 ue] 25 (0, 0))) := Lib.hid ((HW.out.block _ (lt_of_block UU.out)).trans UU.out)
          by_cases hlt : k < m
          · have hlt' : (k : Int) < (m : Int) := by omega
            obtain ⟨⟨x0, x1⟩, -⟩ := ob2 TW.out
            obtain ⟨b2, off2, z, rfl, hb2, hc2, hz2, z0, z1⟩ := (SZ4.out.on HW.out).at_ (k := k) (by rw [HZ.out]; exact hlt)
            have E1 := epoch_any z z0 z1
            have AT1 := Lib.hid (AT.out wr k hlt HW.out)
            rw [hz2.out] at AT1
            have AU1 := Lib.hid (fun W hW => AU.out W k hlt hW)
            have CT1 : Hid (zs.getD k 0 = zs.getD k 0) := Lib.hid rfl
            rw [hz2.out] at CT1
            generalize Pl.epochV z = ez at *
            generalize Ep.inAt (Ep.cutL L m c) ue k = ia at *
            generalize Ep.atV (Ep.cutL L m c) ue k = va at *
            clear hz2 z0 z1 AT AU CT
            go_wp2_with fail
            (with_reducible refine AT1.out.mono ?_); rintro e w5 ⟨rfl, b5⟩
            have U5 : Hid (w5.heap[Y]? = some (.cells #[.slice A3 r c3, .int .i64 ue] 25 (0, 0))) := Lib.hid ((b5.out.block _ (lt_of_block UW.out)).trans UW.out)
            have H5 : Hid (Below W3.heap.size W3 w5) := Lib.hid (HW.out.trans (b5.out.mono HW.out.size))
            have c5 : w5.cell? ⟨b2, off2 + k, none⟩ = some (.int .u64 z) := (b5.out.cell (p := ⟨b2, off2 + k, none⟩) hb2.out).trans hc2
            have L5 : Hid (b2 < w5.heap.size) := Lib.hid (Nat.lt_of_lt_of_le hb2.out b5.out.size)
            obtain ⟨⟨v0, v1⟩, -⟩ := ob2 U5.out
            clear b5
            go_wp2_with fail
            (with_reducible refine (AU1.out _ H5.out).mono ?_); rintro e w6 ⟨rfl, b6⟩
            have H6 : Hid (Below W3.heap.size W3 w6) := Lib.hid (H5.out.trans (b6.out.mono H5.out.size))
            have c6 : w6.cell? ⟨b2, off2 + k, none⟩ = some (.int .u64 z) := (b6.out.cell (p := ⟨b2, off2 + k, none⟩) L5.out).trans c5
            clear b6
            go_wp2_with fail
            (with_reducible refine (E1 _).mono ?_); rintro e w' ⟨rfl, rfl⟩
            go_wp2
            go_roundw
            case rel => exact ⟨k + 1, by omega, by go_num, H6⟩
            case measure => simp [intOf]; omega
          · obtain rfl : k = m := by omega
            clear AT AU CT
            go_wp2
            go_ret
            exact ⟨rfl, BB4.out.trans (HW.out.mono BB4.out.size)⟩
set_option maxHeartbeats 1000000 in
theorem tells_off (A : Option Addr) (n cap : Nat) (c : Int) (hn : 40 < n) (w : World) :
    Calls Try.prog 5 #[.slice A n cap, .int .i64 c] w fun e w' => e = .returned (.bool true) ∧ Below w.heap.size w w' := by
  have hn' : (40 : Int) < (n : Int) := by omega
  clear hn
  go_enter Try.func5, Try.ntmps5
  go_wp2_with fail
  (with_reducible refine (awake_any _).mono ?_); rintro e w1 ⟨rfl, b1⟩
  go_wp2
  go_ret
  exact ⟨rfl, b1.out⟩
theorem tells_walk (A : Option Addr) (bs : List Int) (cap : Nat) (c : Int) (c0 : -9223372036854775808 ≤ c) (c1 : c ≤ 9223372036854775807) (w : World) (h : Bytes w w.heap.size A bs) :
    Calls Try.prog 5 #[.slice A bs.length cap, .int .i64 c] w fun e w' => e = .returned (.bool true) ∧ Below w.heap.size w w' := by
  by_cases hn : bs.length ≤ 40
  · exact tells_on A bs cap c hn c0 c1 w h
  · exact tells_off A _ cap c (by omega) w
end Go.Proofs.Ytfidakogpgdnjaa
