/-
  The law EpochsMeets: two logs that began as one and went on by other epochs each meet where they part.
-/
import Derived.Test.YtfidakogpgdnjaaEpTells
import Derived.Test.YtfidakogpgdnjaaEpMeet
import Derived.Test.YtfidakogpgdnjaaEpTwo
namespace Go.Proofs.Ytfidakogpgdnjaa
open Go.RowKit
theorem and1_u8 (z : Int) (h0 : 0 ≤ z) (h1 : z ≤ 255) : bits .and .u8 z 1 = z % 2 := by
  have h := u8_and z 1 h0 (by omega) (by omega) (by omega)
  rw [h]
  obtain ⟨n, rfl⟩ := Int.eq_ofNat_of_zero_le h0
  have e : n &&& 1 = n % 2 := Nat.and_one_is_mod n
  show ((n &&& 1 : Nat) : Int) = _
  rw [e]; omega
theorem and1_i64 (z : Int) (h0 : 0 ≤ z) (h1 : z ≤ 1000) : bits .and .i64 z 1 = z % 2 := by
  obtain ⟨n, rfl⟩ := Int.eq_ofNat_of_zero_le h0
  have hn : n ≤ 1000 := by omega
  have key : ∀ k : Fin 1001, bits .and .i64 ((k.val : Nat) : Int) 1 = ((k.val : Nat) : Int) % 2 := by decide +kernel
  exact key ⟨n, by omega⟩
/-- A log that has gone on behind a common part by epochs of one kind. -/
structure Forked (C : List Int) (n r : Int) (zs X : List Int) (xv : Int) : Prop where
  of : Ep.ofV zs = some (C ++ X, (zs.length : Int))
  fork : Ep.Fork C n r X (zs.length : Int)
  last : Ep.lastE (C ++ X) ≤ xv
  up : ∀ c ∈ C, Pl.epochV c < xv
theorem Forked.start {zs C : List Int} {ep : Int} (h : Built zs C ep) (r xv : Int) (hx : ep < xv) : Forked C zs.length r zs [] xv := by
  have hg := h.log.g
  rw [List.length_map] at hg
  have hl := h.last
  refine ⟨by rw [List.append_nil]; exact h.of, Ep.Fork.start hg, by rw [List.append_nil]; omega, fun c hc => ?_⟩
  have := Ep.last_of hc hg.asc
  omega
theorem Forked.snoc {C zs X : List Int} {n r xv : Int} (h : Forked C n r zs X xv) (e : Int) (he : xv ≤ e) (hr : e % 2 = r) (h0 : 0 ≤ e) (h1 : e ≤ 1048575) (hn : zs.length ≤ 1000) :
    ∃ X', Forked C n r (zs ++ [Pl.packV e zs.length]) X' e := by
  obtain ⟨p1, p2, p3, p4⟩ := pack_parts e zs.length h0 h1 (by omega) (by omega)
  have hlast := h.last
  obtain ⟨X', e1, e2⟩ := h.fork.ext (s := Pl.packV e zs.length) (by omega) p2 (fun c hc => by rw [p1]; have := h.up c hc; omega) (by rw [p1]; exact hr) (by rw [p1]; omega) (by rw [p1]; exact h0)
  have hof := Ep.ofV_snoc h.of (s := Pl.packV e zs.length) (by rw [p2]) (by rw [p1]; omega)
  rw [e1] at hof
  have el : ((zs ++ [Pl.packV e zs.length]).length : Int) = (zs.length : Int) + 1 := by simp
  refine ⟨X', by rw [hof, el], by rw [el]; exact e2, ?_, fun c hc => by have := h.up c hc; omega⟩
  rw [← e1]
  unfold Ep.extL
  split
  · rw [Ep.lastE_snoc, p1]; exact Int.le_refl _
  · omega
theorem Forked.len {C zs X : List Int} {n r xv : Int} (h : Forked C n r zs X xv) : (C ++ X).length ≤ zs.length := len_leG h.fork.g
set_option maxHeartbeats 4000000 in
set_option maxRecDepth 20000 in
theorem meets_on (A0 A1 A2 : Option Addr) (b0 b1 b2 : List Int) (cap0 cap1 cap2 : Nat) (h0 : b0.length ≤ 20) (h1 : b1.length ≤ 20) (h2 : b2.length ≤ 20) (w : World) (y0 : Bytes w w.heap.size A0 b0) (y1 : Bytes w w.heap.size A1 b1) (y2 : Bytes w w.heap.size A2 b2) :
    Calls Try.prog 4 #[.slice A0 b0.length cap0, .slice A1 b1.length cap1, .slice A2 b2.length cap2] w fun e w' => e = .returned (.bool true) ∧ Below w.heap.size w w' := by
  have H0 := Lib.hid y0
  have H1 := Lib.hid y1
  have H2 := Lib.hid y2
  obtain ⟨n0, hn0⟩ : ∃ n, n = b0.length := ⟨_, rfl⟩
  obtain ⟨n1, hn1⟩ : ∃ n, n = b1.length := ⟨_, rfl⟩
  obtain ⟨n2, hn2⟩ : ∃ n, n = b2.length := ⟨_, rfl⟩
  rw [← hn0] at h0 ⊢
  rw [← hn1] at h1 ⊢
  rw [← hn2] at h2 ⊢
  have N0 := Lib.hid hn0
  have N1 := Lib.hid hn1
  have N2 := Lib.hid hn2
  have h0' : (n0 : Int) ≤ 20 := by omega
  have h1' : (n1 : Int) ≤ 20 := by omega
  have h2' : (n2 : Int) ≤ 20 := by omega
  clear y0 y1 y2 hn0 hn1 hn2
  go_enter Try.func4, Try.ntmps4
  go_wp2_with fail
  (with_reducible refine (awake_any _).mono ?_); rintro e w1 ⟨rfl, b1⟩
  go_wp2
  go_loopw [7, 8, 9, 10] (fun ev av bv iv wr => ∃ (k : Nat) (zs L : List Int) (ep : Int) (A : Option Addr) (c : Nat) (B : Option Addr) (d : Nat), k ≤ n0 ∧ iv = .int .i64 k ∧ ev = .int .i64 ep ∧ av = .slice A zs.length c ∧ bv = .slice B zs.length d ∧ 1 ≤ ep ∧ ep ≤ 1 + (k : Int) ∧ Hid (zs.length = k) ∧ Hid (Built zs L ep) ∧ Hid (Below w.heap.size w wr) ∧ Hid (OwnS wr w.heap.size A c zs) ∧ Hid (OwnS wr w.heap.size B d zs) ∧ Hid (ApartS A B)) (fun _ _ _ iv _ => n0 - (intOf iv).toNat)
  case atStart => exact ⟨0, [], [], 1, none, 0, none, 0, Nat.zero_le _, rfl, rfl, rfl, rfl, by omega, by omega, Lib.hid rfl, Lib.hid (Built.nil 1 (by omega)), b1, Lib.hid (OwnS.none_ _ _), Lib.hid (OwnS.none_ _ _), Lib.hid (ApartS.none_ _)⟩
  case round =>
    obtain ⟨k, zs, L, ep, A, c, B, d, hk, rfl, rfl, rfl, rfl, he0, he1, HZ, HB, BW, OA, OB, AP⟩ := hrel
    by_cases hlt : k < n0
    · have hlt' : (k : Int) < (n0 : Int) := by omega
      obtain ⟨b, off, z, rfl, hb, hc, hz, z0, z1⟩ := (H0.out.below BW.out).at_ (k := k) (by rw [← N0.out]; exact hlt)
      obtain ⟨t, ht, t0, t1⟩ : ∃ t, bits .and .u8 z 1 = t ∧ 0 ≤ t ∧ t ≤ 1 := ⟨z % 2, and1_u8 z z0 z1, by omega, by omega⟩
      have PK : Hid (∀ W, Calls Try.prog 9 #[.int .i64 (ep + t), .int .i64 (k : Int)] W fun e w' => e = .returned (.int .u64 (Pl.packV (ep + t) k)) ∧ W = w') := Lib.hid (pk_any _ _)
      have PP := Lib.hid (pack_parts (ep + t) k (by omega) (by omega) (by omega) (by omega))
      have HB2 : Hid (Built (zs ++ [Pl.packV (ep + t) k]) (Ep.extL L (Pl.packV (ep + t) k)) (ep + t)) := Lib.hid (by have := HB.out.snoc (ep + t) (by omega) (by omega) (by omega) (by rw [HZ.out]; omega); rw [HZ.out] at this; exact this)
      generalize Pl.packV (ep + t) k = s at *
      clear hz z0 z1 hb
      go_wp2_with fail
      (with_reducible refine (PK.out _).mono ?_); rintro e w' ⟨rfl, rfl⟩
      go_wp2_with (at_builtin; refine wp_appS2 rfl (.tmp 49) (.tmp 53) rfl rfl rfl (OA.out.grew ((Below.refl wr.heap.size wr).alloc (Nat.le_refl _) _) (Nat.le_refl _)) (by have := BW.out.size; simp; omega) rfl rfl (Sts.new1 wr s PP.out.2.2.1 PP.out.2.2.2 _) (by have := HZ.out; simp; omega) ?_; intro A4 c4 w4 o4 g4 k4; have O4 := Lib.hid o4; have K4 := Lib.hid (k4 B d zs (OB.out.grew ((Below.refl wr.heap.size wr).alloc (Nat.le_refl _) _) (Nat.le_refl _)) AP.out); have G4 : Hid (Below w.heap.size w w4) := Lib.hid (((BW.out.alloc BW.out.size _)).trans g4.below); clear o4 g4 k4)
      go_wp2_with fail
      (with_reducible refine (PK.out _).mono ?_); rintro e w' ⟨rfl, rfl⟩
      go_wp2_with (at_builtin; refine wp_appS2 rfl (.tmp 55) (.tmp 59) rfl rfl rfl (K4.out.1.grew ((Below.refl w4.heap.size w4).alloc (Nat.le_refl _) _) (Nat.le_refl _)) (by have := G4.out.size; simp; omega) rfl rfl (Sts.new1 w4 s PP.out.2.2.1 PP.out.2.2.2 _) (by have := HZ.out; simp; omega) ?_; intro A5 c5 w5 o5 g5 k5; have O5 := Lib.hid o5; have K5 := Lib.hid (k5 A4 c4 (zs ++ [s]) (O4.out.grew ((Below.refl w4.heap.size w4).alloc (Nat.le_refl _) _) (Nat.le_refl _)) K4.out.2.swap); have G5 : Hid (Below w.heap.size w w5) := Lib.hid (((G4.out.alloc G4.out.size _)).trans g5.below); clear o5 g5 k5)
      go_roundw
      case rel => exact ⟨k + 1, zs ++ [s], _, ep + t, A4, c4, A5, c5, by omega, by go_num, rfl, by simp, by simp, by omega, by omega, Lib.hid (by rw [List.length_append, HZ.out]; rfl), HB2, G5, Lib.hid K5.out.1, O5, Lib.hid K5.out.2.swap⟩
      case measure => simp [intOf]; omega
    · obtain rfl : n0 = k := by omega
      obtain ⟨t, ht, t0, t1, te⟩ : ∃ t, bits .and .i64 ep 1 = t ∧ 0 ≤ t ∧ t ≤ 1 ∧ (ep + t) % 2 = 0 := ⟨ep % 2, and1_i64 ep (by omega) (by omega), by omega, by omega, by omega⟩
      have hzs := HZ.out
      have FX : Hid (Forked L n0 1 zs [] (ep + t + 1)) := Lib.hid (by have := Forked.start HB.out 1 (ep + t + 1) (by omega); rw [hzs] at this; exact this)
      have FY : Hid (Forked L n0 0 zs [] (ep + t + 2)) := Lib.hid (by have := Forked.start HB.out 0 (ep + t + 2) (by omega); rw [hzs] at this; exact this)
      have CZ : Hid (L.length = 0 → (n0 : Int) = 0) := Lib.hid fun h => by
        have h1 := HB.out.log.st
        unfold Ep.startV at h1
        rw [if_neg (by omega), List.length_map, hzs] at h1
        exact h1
      have HZS := Lib.hid hzs
      have TE := Lib.hid te
      clear H0 N0 hzs te
      go_wp2
      clear ht
      go_loopw [8, 11, 13] (fun av xv iv wr => ∃ (k : Nat) (zs1 X : List Int) (x : Int) (A : Option Addr) (c : Nat), k ≤ n1 ∧ iv = .int .i64 k ∧ xv = .int .i64 x ∧ av = .slice A zs1.length c ∧ 1 ≤ x ∧ x ≤ 50 + 2 * (k : Int) ∧ Hid (zs1.length = n0 + k) ∧ Hid (x % 2 = 1) ∧ Hid (Forked L n0 1 zs1 X x) ∧ Hid (Below w.heap.size w wr) ∧ Hid (OwnS wr w.heap.size A c zs1) ∧ Hid (OwnS wr w.heap.size B d zs) ∧ Hid (ApartS A B)) (fun _ _ iv _ => n1 - (intOf iv).toNat)
      case atStart => exact ⟨0, zs, [], _, A, c, Nat.zero_le _, rfl, rfl, rfl, by omega, by omega, HZS, Lib.hid (by have := TE.out; omega), FX, BW, OA, OB, AP⟩
      case round =>
        obtain ⟨k, zs1, X, x, A, c, hk, rfl, rfl, rfl, hx0, hx1, HZ1, HO, HF, BW, OA, OB, AP⟩ := hrel
        by_cases hlt : k < n1
        · have hlt' : (k : Int) < (n1 : Int) := by omega
          obtain ⟨b, off, z, rfl, hb, hc, hz, z0, z1⟩ := (H1.out.below BW.out).at_ (k := k) (by rw [← N1.out]; exact hlt)
          obtain ⟨t, ht, t0, t1⟩ : ∃ t, bits .and .u8 z 1 = t ∧ 0 ≤ t ∧ t ≤ 1 := ⟨z % 2, and1_u8 z z0 z1, by omega, by omega⟩
          obtain ⟨q, hq⟩ : ∃ q, q = zs1.length := ⟨_, rfl⟩
          have HQ := Lib.hid hq
          have hq40 : (q : Int) ≤ 40 := by have := HZ1.out; omega
          have PK : Hid (∀ W, Calls Try.prog 9 #[.int .i64 (x + 2 * t), .int .i64 (q : Int)] W fun e w' => e = .returned (.int .u64 (Pl.packV (x + 2 * t) q)) ∧ W = w') := Lib.hid (pk_any _ _)
          have PP := Lib.hid (pack_parts (x + 2 * t) q (by omega) (by omega) (by omega) (by omega))
          obtain ⟨X', hX'⟩ := HF.out.snoc (x + 2 * t) (by omega) (by have := HO.out; omega) (by omega) (by omega) (by have := HZ1.out; omega)
          rw [← hq] at hX' ⊢
          have HF2 := Lib.hid hX'
          have HO2 : Hid ((x + 2 * t) % 2 = 1) := Lib.hid (by have := HO.out; omega)
          generalize Pl.packV (x + 2 * t) q = s at *
          clear hz z0 z1 hb hq hX'
          go_wp2_with fail
          (with_reducible refine (PK.out _).mono ?_); rintro e w' ⟨rfl, rfl⟩
          go_wp2_with (at_builtin; refine wp_appS2 rfl (.tmp 86) (.tmp 91) rfl rfl HQ.out (OA.out.grew ((Below.refl wr.heap.size wr).alloc (Nat.le_refl _) _) (Nat.le_refl _)) (by have := BW.out.size; simp; omega) rfl rfl (Sts.new1 wr s PP.out.2.2.1 PP.out.2.2.2 _) (by have := HZ1.out; simp; omega) ?_; intro A4 c4 w4 o4 g4 k4; have O4 := Lib.hid o4; have K4 := Lib.hid (k4 B d zs (OB.out.grew ((Below.refl wr.heap.size wr).alloc (Nat.le_refl _) _) (Nat.le_refl _)) AP.out); have G4 : Hid (Below w.heap.size w w4) := Lib.hid (((BW.out.alloc BW.out.size _)).trans g4.below); clear o4 g4 k4)
          go_roundw
          case rel => exact ⟨k + 1, zs1 ++ [s], X', x + 2 * t, A4, c4, by omega, by go_num, rfl, by simp, by omega, by omega, Lib.hid (by rw [List.length_append, HZ1.out]; simp; omega), HO2, HF2, G4, O4, Lib.hid K4.out.1, Lib.hid K4.out.2⟩
          case measure => simp [intOf]; omega
        · obtain rfl : n1 = k := by omega
          clear H1 N1
          go_wp2
          go_loopw [9, 12, 14] (fun bv yv iv wr => ∃ (j : Nat) (zs2 Y : List Int) (y : Int) (B : Option Addr) (d : Nat), j ≤ n2 ∧ iv = .int .i64 j ∧ yv = .int .i64 y ∧ bv = .slice B zs2.length d ∧ 1 ≤ y ∧ y ≤ 50 + 2 * (j : Int) ∧ Hid (zs2.length = n0 + j) ∧ Hid (y % 2 = 0) ∧ Hid (Forked L n0 0 zs2 Y y) ∧ Hid (Below w.heap.size w wr) ∧ Hid (OwnS wr w.heap.size B d zs2) ∧ Hid (OwnS wr w.heap.size A c zs1) ∧ Hid (ApartS B A)) (fun _ _ iv _ => n2 - (intOf iv).toNat)
          case atStart => exact ⟨0, zs, [], _, B, d, Nat.zero_le _, rfl, rfl, rfl, by omega, by omega, HZS, Lib.hid (by have := TE.out; omega), FY, BW, OB, OA, Lib.hid AP.out.swap⟩
          case round =>
            clear BW OA OB AP
            obtain ⟨j, zs2, Y, y, B, d, hj, rfl, rfl, rfl, hy0, hy1, HZ2, HO3, HF3, BW, OB, OA, AP⟩ := hrel
            by_cases hlt : j < n2
            · have hlt' : (j : Int) < (n2 : Int) := by omega
              obtain ⟨b, off, z, rfl, hb, hc, hz, z0, z1⟩ := (H2.out.below BW.out).at_ (k := j) (by rw [← N2.out]; exact hlt)
              obtain ⟨t, ht, t0, t1⟩ : ∃ t, bits .and .u8 z 1 = t ∧ 0 ≤ t ∧ t ≤ 1 := ⟨z % 2, and1_u8 z z0 z1, by omega, by omega⟩
              obtain ⟨q, hq⟩ : ∃ q, q = zs2.length := ⟨_, rfl⟩
              have HQ := Lib.hid hq
              have hq40 : (q : Int) ≤ 40 := by have := HZ2.out; omega
              have PK : Hid (∀ W, Calls Try.prog 9 #[.int .i64 (y + 2 * t), .int .i64 (q : Int)] W fun e w' => e = .returned (.int .u64 (Pl.packV (y + 2 * t) q)) ∧ W = w') := Lib.hid (pk_any _ _)
              have PP := Lib.hid (pack_parts (y + 2 * t) q (by omega) (by omega) (by omega) (by omega))
              obtain ⟨Y', hY'⟩ := HF3.out.snoc (y + 2 * t) (by omega) (by have := HO3.out; omega) (by omega) (by omega) (by have := HZ2.out; omega)
              rw [← hq] at hY' ⊢
              have HF4 := Lib.hid hY'
              have HO4 : Hid ((y + 2 * t) % 2 = 0) := Lib.hid (by have := HO3.out; omega)
              generalize Pl.packV (y + 2 * t) q = s at *
              clear hz z0 z1 hb hq hY'
              go_wp2_with fail
              (with_reducible refine (PK.out _).mono ?_); rintro e w' ⟨rfl, rfl⟩
              go_wp2_with (at_builtin; refine wp_appS2 rfl (.tmp 108) (.tmp 113) rfl rfl HQ.out (OB.out.grew ((Below.refl wr.heap.size wr).alloc (Nat.le_refl _) _) (Nat.le_refl _)) (by have := BW.out.size; simp; omega) rfl rfl (Sts.new1 wr s PP.out.2.2.1 PP.out.2.2.2 _) (by have := HZ2.out; simp; omega) ?_; intro A4 c4 w4 o4 g4 k4; have O4 := Lib.hid o4; have K4 := Lib.hid (k4 A c zs1 (OA.out.grew ((Below.refl wr.heap.size wr).alloc (Nat.le_refl _) _) (Nat.le_refl _)) AP.out); have G4 : Hid (Below w.heap.size w w4) := Lib.hid (((BW.out.alloc BW.out.size _)).trans g4.below); clear o4 g4 k4)
              go_roundw
              case rel => exact ⟨j + 1, zs2 ++ [s], Y', y + 2 * t, A4, c4, by omega, by go_num, rfl, by simp, by omega, by omega, Lib.hid (by rw [List.length_append, HZ2.out]; simp; omega), HO4, HF4, G4, O4, Lib.hid K4.out.1, Lib.hid K4.out.2⟩
              case measure => simp [intOf]; omega
            · obtain rfl : n2 = j := by omega
              have LX : Hid ((L ++ X).length ≤ 40) := Lib.hid (Nat.le_trans HF.out.len (by have := HZ1.out; omega))
              have LY : Hid ((L ++ Y).length ≤ 40) := Lib.hid (Nat.le_trans HF3.out.len (by have := HZ2.out; omega))
              have OF1 : Hid (∀ W, Below wr.heap.size wr W → Calls Try.prog 8 #[.slice A zs1.length c] W (TabPost W (L ++ X) (zs1.length : Int) true)) := Lib.hid fun W hW => by
                have := of_any A zs1 c (by have := HZ1.out; omega) W (OA.out.sts.on hW)
                rw [HF.out.of] at this
                exact this
              have OF2 : Hid (∀ W, Below wr.heap.size wr W → Calls Try.prog 8 #[.slice B zs2.length d] W (TabPost W (L ++ Y) (zs2.length : Int) true)) := Lib.hid fun W hW => by
                have := of_any B zs2 d (by have := HZ2.out; omega) W (OB.out.sts.on hW)
                rw [HF3.out.of] at this
                exact this
              have MM := Lib.hid (Ep.fork_meet HF.out.fork HF3.out.fork CZ.out)
              have MN := Lib.hid (Ep.meet_swap (L ++ X) zs1.length (L ++ Y) zs2.length)
              clear HF HF3 FX FY HB HZ HZS TE HO HO3 OA OB AP CZ HZ1 HZ2 H2 N2 hy0 hy1 hx0 hx1
              generalize L ++ X = P at *
              generalize L ++ Y = Q at *
              generalize zs1.length = m1 at *
              generalize zs2.length = m2 at *
              clear hlt
              go_wp2_with fail
              (with_reducible refine (OF1.out _ (Below.refl _ _)).mono ?_); rintro e w2 ⟨A3, c3, rfl, o3, b3⟩
              obtain ⟨W2, hW2⟩ : ∃ W2, W2 = w2.alloc (.cells #[.slice A3 P.length c3, .int .i64 (m1 : Int)] 25) := ⟨_, rfl⟩
              have B2 : Hid (Below w2.heap.size w2 W2) := Lib.hid (by rw [hW2]; exact (Below.refl _ _).alloc (Nat.le_refl _) _)
              have T2 : Hid (W2.heap[w2.heap.size]? = some (.cells #[.slice A3 P.length c3, .int .i64 (m1 : Int)] 25 (0, 0))) := Lib.hid (by rw [hW2]; exact heap_alloc_new ..)
              have S2 : Hid (Sts W2 W2.heap.size A3 P) := Lib.hid (o3.out.sts.on B2.out)
              have BB2 : Hid (Below wr.heap.size wr W2) := Lib.hid (b3.out.trans (B2.out.mono b3.out.size))
              clear o3 b3 B2
              go_wp2_with fail
              rw [← hW2]
              clear hW2
              generalize w2.heap.size = X2 at *
              (with_reducible refine (OF2.out _ BB2.out).mono ?_); rintro e w3 ⟨A4, c4, rfl, o4, b4⟩
              obtain ⟨W3, hW3⟩ : ∃ W3, W3 = w3.alloc (.cells #[.slice A4 Q.length c4, .int .i64 (m2 : Int)] 25) := ⟨_, rfl⟩
              have B3 : Hid (Below w3.heap.size w3 W3) := Lib.hid (by rw [hW3]; exact (Below.refl _ _).alloc (Nat.le_refl _) _)
              have BB3 : Hid (Below W2.heap.size W2 W3) := Lib.hid (b4.out.trans (B3.out.mono b4.out.size))
              have T3 : Hid (W3.heap[X2]? = some (.cells #[.slice A3 P.length c3, .int .i64 (m1 : Int)] 25 (0, 0))) := Lib.hid ((BB3.out.block _ (lt_of_block T2.out)).trans T2.out)
              have U3 : Hid (W3.heap[w3.heap.size]? = some (.cells #[.slice A4 Q.length c4, .int .i64 (m2 : Int)] 25 (0, 0))) := Lib.hid (by rw [hW3]; exact heap_alloc_new ..)
              have M1 : Hid (∀ W, Below W3.heap.size W3 W → Calls Try.prog 14 #[.agg #[.slice A3 P.length c3, .int .i64 (m1 : Int)], .agg #[.slice A4 Q.length c4, .int .i64 (m2 : Int)]] W (MeetPost W (n0 : Int))) := Lib.hid fun W hW => by
                have := meet_any A3 A4 P Q c3 c4 m1 m2 (by have := LX.out; omega) (by have := LY.out; omega) W ((S2.out.on BB3.out).on hW) ((o4.out.sts.on B3.out).on hW)
                rw [MM.out] at this
                exact this
              have M2 : Hid (∀ W, Below W3.heap.size W3 W → Calls Try.prog 14 #[.agg #[.slice A4 Q.length c4, .int .i64 (m2 : Int)], .agg #[.slice A3 P.length c3, .int .i64 (m1 : Int)]] W (MeetPost W (n0 : Int))) := Lib.hid fun W hW => by
                have := meet_any A4 A3 Q P c4 c3 m2 m1 (by have := LY.out; omega) (by have := LX.out; omega) W ((o4.out.sts.on B3.out).on hW) ((S2.out.on BB3.out).on hW)
                rw [MN.out, MM.out] at this
                exact this
              have BW3 : Hid (Below w.heap.size w W3) := Lib.hid ((BW.out.trans (BB2.out.mono BW.out.size)).trans (BB3.out.mono (Nat.le_trans BW.out.size BB2.out.size)))
              clear o4 b4 B3 S2 BB2 BB3 T2 OF1 OF2 LX LY MM MN BW
              generalize P.length = p at *
              generalize Q.length = q at *
              obtain ⟨⟨t0', t1'⟩, -⟩ := ob2 T3.out
              obtain ⟨⟨u0, u1⟩, -⟩ := ob2 U3.out
              rw [hW3] at t0' t1' u0 u1
              go_wp2_with fail
              rw [← hW3]
              (with_reducible refine (M1.out _ (Below.refl _ _)).mono ?_); rintro e w5 ⟨rfl, b5⟩
              have T5 : Hid (w5.heap[X2]? = some (.cells #[.slice A3 p c3, .int .i64 (m1 : Int)] 25 (0, 0))) := Lib.hid ((b5.out.block _ (lt_of_block T3.out)).trans T3.out)
              have U5 : Hid (w5.heap[w3.heap.size]? = some (.cells #[.slice A4 q c4, .int .i64 (m2 : Int)] 25 (0, 0))) := Lib.hid ((b5.out.block _ (lt_of_block U3.out)).trans U3.out)
              obtain ⟨⟨v0, v1⟩, -⟩ := ob2 T5.out
              obtain ⟨⟨q0, q1⟩, -⟩ := ob2 U5.out
              clear t0' t1' u0 u1 hW3
              go_wp2_with fail
              (with_reducible refine (M2.out _ b5.out).mono ?_); rintro e w6 ⟨rfl, b6⟩
              go_wp2
              go_ret
              exact ⟨rfl, (BW3.out.trans (b5.out.mono BW3.out.size)).trans (b6.out.mono (Nat.le_trans BW3.out.size b5.out.size))⟩
set_option maxHeartbeats 1000000 in
theorem meets_off (A0 A1 A2 : Option Addr) (n0 n1 n2 cap0 cap1 cap2 : Nat) (h : 20 < n0 ∨ (n0 ≤ 20 ∧ 20 < n1) ∨ (n0 ≤ 20 ∧ n1 ≤ 20 ∧ 20 < n2)) (w : World) :
    Calls Try.prog 4 #[.slice A0 n0 cap0, .slice A1 n1 cap1, .slice A2 n2 cap2] w fun e w' => e = .returned (.bool true) ∧ Below w.heap.size w w' := by
  have h' : 20 < (n0 : Int) ∨ ((n0 : Int) ≤ 20 ∧ 20 < (n1 : Int)) ∨ ((n0 : Int) ≤ 20 ∧ (n1 : Int) ≤ 20 ∧ 20 < (n2 : Int)) := by omega
  clear h
  rcases h' with h | ⟨h, h2⟩ | ⟨h, h2, h3⟩
  all_goals
    go_enter Try.func4, Try.ntmps4
    go_wp2_with fail
    (with_reducible refine (awake_any _).mono ?_); rintro e w1 ⟨rfl, b1⟩
    go_wp2
    go_ret
    exact ⟨rfl, b1.out⟩
theorem meets_walk (A0 A1 A2 : Option Addr) (b0 b1 b2 : List Int) (cap0 cap1 cap2 : Nat) (w : World) (y0 : Bytes w w.heap.size A0 b0) (y1 : Bytes w w.heap.size A1 b1) (y2 : Bytes w w.heap.size A2 b2) :
    Calls Try.prog 4 #[.slice A0 b0.length cap0, .slice A1 b1.length cap1, .slice A2 b2.length cap2] w fun e w' => e = .returned (.bool true) ∧ Below w.heap.size w w' := by
  by_cases h : b0.length ≤ 20 ∧ b1.length ≤ 20 ∧ b2.length ≤ 20
  · exact meets_on A0 A1 A2 b0 b1 b2 cap0 cap1 cap2 h.1 h.2.1 h.2.2 w y0 y1 y2
  · exact meets_off A0 A1 A2 _ _ _ cap0 cap1 cap2 (by omega) w
end Go.Proofs.Ytfidakogpgdnjaa
