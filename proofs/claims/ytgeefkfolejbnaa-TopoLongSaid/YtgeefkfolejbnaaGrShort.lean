/-
  Package graph: Short at every graph.
-/
import Derived.Test.YtgeefkfolejbnaaGrCycle
import Derived.Test.YtgeefkfolejbnaaGrCopy
namespace Go.Proofs.Ytgeefkfolejbnaa
open Go.RowKit
theorem Gr.filter_step {es : Gr.EI} {k : Nat} {e : Int × Int} (p : Int × Int → Bool) (hk : k < es.length) (he : es.getD k (0, 0) = e) : (es.take (k + 1)).filter p = (es.take k).filter p ++ (if p e then [e] else []) := by
  rw [Gr.take_next hk he, List.filter_append]
  congr 1
  cases h : p e <;> simp [h]
theorem Gr.filter_len {es : Gr.EI} {k : Nat} (p : Int × Int → Bool) : ((es.take k).filter p).length ≤ es.length := by
  have h1 := List.length_filter_le p (es.take k)
  rw [List.length_take] at h1
  omega
set_option maxHeartbeats 8000000 in
theorem short_any (n : Int) (A : Option Addr) (es : Gr.EI) (cap : Nat) (hl : es.length ≤ 100000) (w : World) (h : Edg w w.heap.size A es) :
    Calls Try.prog 26 #[.agg #[.int .i64 n, .slice A es.length cap]] w (GrPost w n (Gr.shortI n es)) := by
  have H := Lib.hid h
  have GD : Hid (∀ W, Below w.heap.size w W → Calls Try.prog 21 #[.agg #[.int .i64 n, .slice A es.length cap]] W (BoolG W (Gr.goodV n es))) := Lib.hid fun W hW => good_any n A es cap (by omega) W (h.on hW)
  have CP : Hid (∀ W, Below w.heap.size w W → Calls Try.prog 41 #[.agg #[.int .i64 n, .slice A es.length cap]] W (GrPost W n es)) := Lib.hid fun W hW => copied_any n A es cap (by omega) W (h.on hW)
  have SH : Hid (∀ W, Below w.heap.size w W → ∀ N : Nat, n = (N : Int) → Gr.Good n es → Calls Try.prog 37 #[.agg #[.int .i64 n, .slice A es.length cap]] W (TabG W (Gr.fin n es))) := Lib.hid fun W hW N e hg => by
    subst e
    exact shortest_any N A es cap hl hg W (h.on hW)
  obtain ⟨l, hlen⟩ : ∃ l, l = es.length := ⟨_, rfl⟩
  have HN := Lib.hid hlen
  rw [← hlen] at GD CP SH hl ⊢
  have FL : Hid (∀ k p, ((es.take k).filter p).length ≤ 100000) := Lib.hid fun k p => Nat.le_trans (Gr.filter_len p) (by rw [← hlen]; exact hl)
  clear h hlen
  obtain ⟨W1, hW1⟩ : ∃ W1, W1 = (w.alloc (.cells #[.int .i64 n, .slice A l cap] 27)).alloc (.cells #[.int .i64 0, .slice none 0 0] 27) := ⟨_, rfl⟩
  have B1 : Hid (Below w.heap.size w W1) := Lib.hid (by rw [hW1]; exact ((Below.refl _ _).alloc (Nat.le_refl _) _).alloc (by simp) _)
  have Z1 : Hid (W1.heap.size = w.heap.size + 1 + 1) := Lib.hid (by rw [hW1]; simp)
  have P1 : Hid (W1.heap[w.heap.size]? = some (.cells #[.int .i64 n, .slice A l cap] 27 (0, 0))) := Lib.hid (by rw [hW1, Below.heap_alloc _ _ _ (by simp)]; exact heap_alloc_new ..)
  have R1 : Hid (W1.heap[w.heap.size + 1]? = some (.cells #[.int .i64 0, .slice none 0 0] 27 (0, 0))) := Lib.hid (by rw [hW1]; have := heap_alloc_new (w.alloc (.cells #[.int .i64 n, .slice A l cap] 27)) (.cells #[.int .i64 0, .slice none 0 0] 27); rw [World.size_alloc] at this; exact this)
  obtain ⟨⟨x0, x1⟩, -⟩ := obG P1.out
  cases hg : Gr.goodV n es with
  | false =>
    rw [hg] at GD
    have E : Hid (Gr.shortI n es = es) := Lib.hid (Gr.shortI_bad hg)
    clear hg
    go_enter Try.func26, Try.ntmps26
    go_wp2_with fail
    rw [← hW1]
    clear hW1
    go_wp2_with fail
    (with_reducible refine (GD.out _ B1.out).mono ?_); rintro e w2 ⟨rfl, b2⟩
    have P2 : Hid (w2.heap[w.heap.size]? = some (.cells #[.int .i64 n, .slice A l cap] 27 (0, 0))) := Lib.hid ((b2.out.block _ (lt_of_block P1.out)).trans P1.out)
    have R2 : Hid (w2.heap[w.heap.size + 1]? = some (.cells #[.int .i64 0, .slice none 0 0] 27 (0, 0))) := Lib.hid ((b2.out.block _ (lt_of_block R1.out)).trans R1.out)
    have B2 : Hid (Below w.heap.size w w2) := Lib.hid (B1.out.trans (b2.out.mono B1.out.size))
    clear b2
    obtain ⟨⟨y0, y1⟩, -⟩ := obG P2.out
    go_wp2_with fail
    (with_reducible refine (CP.out _ B2.out).mono ?_); rintro e w3 ⟨A3, c3, rfl, o3, b3⟩
    have R3 : Hid (w3.heap[w.heap.size + 1]? = some (.cells #[.int .i64 0, .slice none 0 0] 27 (0, 0))) := Lib.hid ((b3.out.block _ (lt_of_block R2.out)).trans R2.out)
    obtain ⟨⟨z0, z1⟩, z2, z3⟩ := obG R3.out
    go_wp2
    exact bodyPost_ret (v := .agg #[.int .i64 n, .slice A3 es.length c3]) (by simp [results, Try.results26, go_sem, z0, z1]) rfl
      ⟨A3, c3, by rw [E.out], Lib.hid (by rw [E.out]; exact (o3.out.low B2.out.size).set2 R3.out (by decide) _ _), Lib.hid (((B2.out.trans (b3.out.mono B2.out.size)).setCell (p := ⟨w.heap.size + 1, 0, none⟩) (by simp) _).setCell (p := ⟨w.heap.size + 1, 1, none⟩) (by simp) _)⟩
  | true =>
    rw [hg] at GD
    have G := Gr.goodV_iff.1 hg
    obtain ⟨N, hN⟩ : ∃ N : Nat, n = (N : Int) := ⟨n.toNat, by have := G.n0; omega⟩
    have hN16 : N ≤ 16 := by have := G.n16; omega
    have SH2 : Hid (∀ W, Below w.heap.size w W → Calls Try.prog 37 #[.agg #[.int .i64 n, .slice A l cap]] W (TabG W (Gr.fin N es))) := Lib.hid fun W hW => by
      have := SH.out W hW N hN G
      rwa [hN] at this ⊢
    subst hN
    have HG := Lib.hid G
    clear hg G SH
    go_enter Try.func26, Try.ntmps26
    go_wp2_with fail
    rw [← hW1]
    clear hW1
    go_wp2_with fail
    (with_reducible refine (GD.out _ B1.out).mono ?_); rintro e w2 ⟨rfl, b2⟩
    have P2 : Hid (w2.heap[w.heap.size]? = some (.cells #[.int .i64 (N : Int), .slice A l cap] 27 (0, 0))) := Lib.hid ((b2.out.block _ (lt_of_block P1.out)).trans P1.out)
    have R2 : Hid (w2.heap[w.heap.size + 1]? = some (.cells #[.int .i64 0, .slice none 0 0] 27 (0, 0))) := Lib.hid ((b2.out.block _ (lt_of_block R1.out)).trans R1.out)
    have B2 : Hid (Below w.heap.size w w2) := Lib.hid (B1.out.trans (b2.out.mono B1.out.size))
    clear b2
    obtain ⟨⟨y0, y1⟩, -⟩ := obG P2.out
    go_wp2_with fail
    (with_reducible refine (SH2.out _ B2.out).mono ?_); rintro e w3 ⟨g, rfl, hgb, m3, b3⟩
    have P3 : Hid (w3.heap[w.heap.size]? = some (.cells #[.int .i64 (N : Int), .slice A l cap] 27 (0, 0))) := Lib.hid ((b3.out.block _ (lt_of_block P2.out)).trans P2.out)
    have R3 : Hid (w3.heap[w.heap.size + 1]? = some (.cells #[.int .i64 0, .slice none 0 0] 27 (0, 0))) := Lib.hid ((b3.out.block _ (lt_of_block R2.out)).trans R2.out)
    have B3 : Hid (Below w.heap.size w w3) := Lib.hid (B2.out.trans (b3.out.mono B2.out.size))
    clear b3 hgb
    obtain ⟨⟨z0, z1⟩, -⟩ := obG P3.out
    have LC : Hid (∀ r, Gr.lc (Gr.fin N es) N = r → Calls Try.prog 38 #[.agg #[.int .i64 (N : Int), .slice A l cap], .map (some g)] w3 (CycPost w3 r)) := Lib.hid fun r hr => by
      subst hr
      exact leastOnCycle_any N hN16 A l cap g 1000000 (Gr.fin N es) w3 m3.out
    have LN : Hid ((Gr.lc (Gr.fin N es) N).2.2 = false ↔ Gr.Tree (Gr.nat es)) := Lib.hid (by
      have h1 := HG.out.lc_none
      rw [Int.toNat_natCast] at h1
      rw [h1]
      have h2 := Gr.cycle_none HG.out.low
      rwa [Int.toNat_natCast] at h2)
    cases hb : (Gr.lc (Gr.fin N es) N).2.2 with
    | true =>
      obtain ⟨a0, b0, hr⟩ : ∃ a0 b0, Gr.lc (Gr.fin N es) N = (a0, b0, true) := ⟨_, _, Prod.ext rfl (Prod.ext rfl hb)⟩
      have LC2 := Lib.hid (LC.out _ hr)
      have E : Hid (Gr.shortI N es = es) := Lib.hid (Gr.shortI_cycle HG.out fun ht => by rw [LN.out.2 ht] at hb; cases hb)
      clear hb hr LC LN
      go_wp2_with fail
      (with_reducible refine LC2.out.mono ?_); rintro e w4 ⟨rfl, b4⟩
      have P4 : Hid (w4.heap[w.heap.size]? = some (.cells #[.int .i64 (N : Int), .slice A l cap] 27 (0, 0))) := Lib.hid ((b4.out.block _ (lt_of_block P3.out)).trans P3.out)
      have R4 : Hid (w4.heap[w.heap.size + 1]? = some (.cells #[.int .i64 0, .slice none 0 0] 27 (0, 0))) := Lib.hid ((b4.out.block _ (lt_of_block R3.out)).trans R3.out)
      have B4 : Hid (Below w.heap.size w w4) := Lib.hid (B3.out.trans (b4.out.mono B3.out.size))
      clear b4
      obtain ⟨⟨u0, u1⟩, -⟩ := obG P4.out
      go_wp2_with fail
      (with_reducible refine (CP.out _ B4.out).mono ?_); rintro e w5 ⟨A5, c5, rfl, o5, b5⟩
      have R5 : Hid (w5.heap[w.heap.size + 1]? = some (.cells #[.int .i64 0, .slice none 0 0] 27 (0, 0))) := Lib.hid ((b5.out.block _ (lt_of_block R4.out)).trans R4.out)
      obtain ⟨⟨v0, v1⟩, v2, v3⟩ := obG R5.out
      go_wp2
      exact bodyPost_ret (v := .agg #[.int .i64 (N : Int), .slice A5 es.length c5]) (by simp [results, Try.results26, go_sem, v0, v1]) rfl
        ⟨A5, c5, by rw [E.out], Lib.hid (by rw [E.out]; exact (o5.out.low B4.out.size).set2 R5.out (by decide) _ _), Lib.hid (((B4.out.trans (b5.out.mono B4.out.size)).setCell (p := ⟨w.heap.size + 1, 0, none⟩) (by simp) _).setCell (p := ⟨w.heap.size + 1, 1, none⟩) (by simp) _)⟩
    | false =>
      obtain ⟨a0, b0, hr⟩ : ∃ a0 b0, Gr.lc (Gr.fin N es) N = (a0, b0, false) := ⟨_, _, Prod.ext rfl (Prod.ext rfl hb)⟩
      have LC2 := Lib.hid (LC.out _ hr)
      have E : Hid (Gr.shortI N es = es.filter (Gr.keepI N es)) := Lib.hid (Gr.shortI_tree HG.out (LN.out.1 hb))
      clear hb hr LC LN CP
      go_wp2_with fail
      (with_reducible refine LC2.out.mono ?_); rintro e w4 ⟨rfl, b4⟩
      have P4 : Hid (w4.heap[w.heap.size]? = some (.cells #[.int .i64 (N : Int), .slice A l cap] 27 (0, 0))) := Lib.hid ((b4.out.block _ (lt_of_block P3.out)).trans P3.out)
      have R4 : Hid (w4.heap[w.heap.size + 1]? = some (.cells #[.int .i64 0, .slice none 0 0] 27 (0, 0))) := Lib.hid ((b4.out.block _ (lt_of_block R3.out)).trans R3.out)
      have B4 : Hid (Below w.heap.size w w4) := Lib.hid (B3.out.trans (b4.out.mono B3.out.size))
      have M4 : Hid (GMap w4 g 1000000 (Gr.fin N es)) := Lib.hid (m3.out.grew b4.out)
      clear b4 m3
      obtain ⟨⟨u0, u1⟩, -⟩ := obG P4.out
      have S4 : Hid (w.heap.size + 1 < w4.heap.size) := Lib.hid (lt_of_block R4.out)
      have hz : w.heap.size < w4.heap.size := lt_of_block P4.out
      obtain ⟨W5, hW5⟩ : ∃ W5, W5 = w4.alloc (.cells #[.int .i64 (N : Int), .slice none 0 0] 27) := ⟨_, rfl⟩
      obtain ⟨X, hX⟩ : ∃ X, X = w4.heap.size := ⟨_, rfl⟩
      have HX := Lib.hid hX
      have P5 : Hid (W5.heap[w.heap.size]? = some (.cells #[.int .i64 (N : Int), .slice A l cap] 27 (0, 0))) := Lib.hid (by rw [hW5, Below.heap_alloc _ _ _ (lt_of_block P4.out)]; exact P4.out)
      have R5 : Hid (W5.heap[w.heap.size + 1]? = some (.cells #[.int .i64 0, .slice none 0 0] 27 (0, 0))) := Lib.hid (by rw [hW5, Below.heap_alloc _ _ _ (lt_of_block R4.out)]; exact R4.out)
      have X5 : Hid (W5.heap[X]? = some (.cells #[.int .i64 (N : Int), .slice none 0 0] 27 (0, 0))) := Lib.hid (by rw [hW5, hX]; exact heap_alloc_new ..)
      have B5 : Hid (Below w.heap.size w W5) := Lib.hid (by rw [hW5]; exact B4.out.alloc B4.out.size _)
      have M5 : Hid (GMap W5 g 1000000 (Gr.fin N es)) := Lib.hid (by rw [hW5]; exact M4.out.grew ((Below.refl _ _).alloc (Nat.le_refl _) _))
      go_wp2_with fail
      rw [← hW5, ← hX]
      clear hW5 hX hz
      go_loopw [33] (fun iv wr => ∃ (k m : Nat) (A' : Option Addr) (cap' : Nat), k ≤ l ∧ iv = .int .i64 k ∧ Hid (m = ((es.take k).filter (Gr.keepI N es)).length) ∧ Hid (OwnE wr W5.heap.size 24 A' cap' ((es.take k).filter (Gr.keepI N es))) ∧ Hid (wr.heap[X]? = some (.cells #[.int .i64 (N : Int), .slice A' m cap'] 27 (0, 0))) ∧ Hid (But W5.heap.size X W5 wr)) (fun iv _ => l - (intOf iv).toNat)
      case atStart => exact ⟨0, 0, none, 0, Nat.zero_le _, rfl, Lib.hid rfl, Lib.hid (OwnE.none_ _ _ _), X5, Lib.hid (But.refl _ _ _)⟩
      case round =>
        obtain ⟨k, m, A', cap', hk, rfl, HM, HO, HXr, HB⟩ := hrel
        have hX2 : w.heap.size + 1 < X := by have := HX.out; have := S4.out; omega
        have hXs : X < wr.heap.size := lt_of_block HXr.out
        have PR : Hid (wr.heap[w.heap.size]? = some (.cells #[.int .i64 (N : Int), .slice A l cap] 27 (0, 0))) := Lib.hid ((HB.out.block _ (lt_of_block P5.out) (by omega)).trans P5.out)
        have RR : Hid (wr.heap[w.heap.size + 1]? = some (.cells #[.int .i64 0, .slice none 0 0] 27 (0, 0))) := Lib.hid ((HB.out.block _ (lt_of_block R5.out) (by omega)).trans R5.out)
        have BW : Hid (Below w.heap.size w wr) := Lib.hid (B5.out.trans (HB.out.below (by have := B5.out.size; omega) (by omega)))
        obtain ⟨⟨p0, p1⟩, -⟩ := obG PR.out
        obtain ⟨⟨q0, q1⟩, q2, q3⟩ := obG HXr.out
        by_cases hlt : k < l
        · have hlt' : (k : Int) < (l : Int) := by omega
          obtain ⟨b, off, x, y, rfl, hb, hc0, hc1, he, hx, hy⟩ := (H.out.below BW.out).at_ (k := k) (by rw [← HN.out]; exact hlt)
          have hz : w.heap.size < wr.heap.size := lt_of_block PR.out
          have ST := Lib.hid (Gr.filter_step (Gr.keepI N es) (by rw [← HN.out]; exact hlt) he.out)
          have IE : Hid (inE (x, y)) := Lib.hid ⟨hx, hy⟩
          have MG : Hid (GMap (wr.alloc (.cells #[.int .i64 x, .int .i64 y] 24)) g 1000000 (Gr.fin N es)) := Lib.hid (by
            have h1 : GMap wr g 1000000 (Gr.fin N es) := M5.out.keep (HB.out.block g M5.out.lt (fun e => by subst e; exact M5.out.ne X5.out rfl))
            exact h1.grew ((Below.refl _ _).alloc (Nat.le_refl _) _))
          have HD : Hid (Calls Try.prog 42 #[.agg #[.int .i64 (N : Int), .slice (some ⟨b, off, none⟩) l cap], .map (some g), .agg #[.int .i64 x, .int .i64 y]] (wr.alloc (.cells #[.int .i64 x, .int .i64 y] 24)) (BoolG (wr.alloc (.cells #[.int .i64 x, .int .i64 y] 24)) (!Gr.keepI N es (x, y)))) :=
            Lib.hid (hasDetour_any N hN16 _ es l cap g 1000000 x y hx hy _ MG.out)
          obtain ⟨W6, hW6⟩ : ∃ W6, W6 = wr.alloc (.cells #[.int .i64 x, .int .i64 y] 24) := ⟨_, rfl⟩
          have E6 : Hid (W6.heap[wr.heap.size]? = some (.cells #[.int .i64 x, .int .i64 y] 24 (0, 0))) := Lib.hid (by rw [hW6]; exact heap_alloc_new ..)
          have B6 : Hid (Below wr.heap.size wr W6) := Lib.hid (by rw [hW6]; exact (Below.refl _ _).alloc (Nat.le_refl _) _)
          rw [← hW6] at HD
          cases hkeep : Gr.keepI N es (x, y) with
          | false =>
            rw [hkeep] at HD
            have E1 : Hid ((es.take (k + 1)).filter (Gr.keepI N es) = (es.take k).filter (Gr.keepI N es)) := Lib.hid (by rw [ST.out, hkeep]; simp)
            clear hkeep hx hy
            go_wp2_with fail
            rw [← hW6]
            clear hW6
            (with_reducible refine HD.out.mono ?_); rintro e w7 ⟨rfl, b7⟩
            have B7 : Hid (Below wr.heap.size wr w7) := Lib.hid (B6.out.trans (b7.out.mono B6.out.size))
            clear b7
            go_wp2
            go_roundw
            case rel => exact ⟨k + 1, m, A', cap', by omega, by go_num, Lib.hid (by rw [E1.out]; exact HM.out), Lib.hid (by rw [E1.out]; exact HO.out.grew B7.out (Nat.le_refl _)), Lib.hid ((B7.out.block _ hXs).trans HXr.out), Lib.hid (HB.out.trans (But.of (B7.out.mono HB.out.size)))⟩
            case measure => simp [intOf]; omega
          | true =>
            rw [hkeep] at HD
            have E1 : Hid ((es.take (k + 1)).filter (Gr.keepI N es) = (es.take k).filter (Gr.keepI N es) ++ [(x, y)]) := Lib.hid (by rw [ST.out, hkeep]; simp)
            have LK := Lib.hid (FL.out k (Gr.keepI N es))
            clear hkeep hx hy
            go_wp2_with fail
            rw [← hW6]
            clear hW6
            (with_reducible refine HD.out.mono ?_); rintro e w7 ⟨rfl, b7⟩
            have B7 : Hid (Below wr.heap.size wr w7) := Lib.hid (B6.out.trans (b7.out.mono B6.out.size))
            have E7 : Hid (w7.heap[wr.heap.size]? = some (.cells #[.int .i64 x, .int .i64 y] 24 (0, 0))) := Lib.hid ((b7.out.block _ (lt_of_block E6.out)).trans E6.out)
            have X7 : Hid (w7.heap[X]? = some (.cells #[.int .i64 (N : Int), .slice A' m cap'] 27 (0, 0))) := Lib.hid ((B7.out.block _ hXs).trans HXr.out)
            have O7 : Hid (OwnE w7 W5.heap.size 24 A' cap' ((es.take k).filter (Gr.keepI N es))) := Lib.hid (HO.out.grew B7.out (Nat.le_refl _))
            have N7 : Hid (W5.heap.size ≤ w7.heap.size) := Lib.hid (Nat.le_trans HB.out.size B7.out.size)
            clear b7
            obtain ⟨⟨s0, s1⟩, -⟩ := obG E7.out
            obtain ⟨⟨t0, t1⟩, t2, t3⟩ := obG X7.out
            have BA : Hid (Below w7.heap.size w7 (w7.alloc (.cells #[.int .i64 x, .int .i64 y] 24))) := Lib.hid ((Below.refl _ _).alloc (Nat.le_refl _) _)
            have CA : Hid ((w7.alloc (.cells #[.int .i64 x, .int .i64 y] 24)).heap[w7.heap.size]? = some (.cells #[.int .i64 x, .int .i64 y] 24 (0, 0))) := Lib.hid (heap_alloc_new ..)
            go_wp2_with (at_builtin; refine wp_appE rfl (.tmp 43) (.tmp 45) rfl Try.underlying25 edge_info rfl HM.out (O7.out.grew BA.out (Nat.le_refl _)) (Nat.le_trans N7.out BA.out.size) rfl (obG CA.out).1.1 (obG CA.out).1.2 IE.out (by have := LK.out; omega) ?_; intro A8 c8 w8 o8 d8; have O8 := Lib.hid o8; have D8 := Lib.hid (grownE_below (O7.out.grew BA.out (Nat.le_refl _)) (Nat.le_trans N7.out BA.out.size) d8); have X8 : Hid (w8.heap[X]? = some (.cells #[.int .i64 (N : Int), .slice A' m cap'] 27 (0, 0))) := Lib.hid ((D8.out.block _ (lt_of_block X5.out)).trans ((BA.out.block _ (lt_of_block X7.out)).trans X7.out)); have r0 := (obG X8.out).1.1; have r1 := (obG X8.out).1.2; have r2 := (obG X8.out).2.1; have r3 := (obG X8.out).2.2; clear o8 d8)
            go_roundw
            case rel => exact ⟨k + 1, _, A8, c8, by omega, by go_num, Lib.hid (by rw [E1.out, List.length_append]; rfl), Lib.hid (by rw [E1.out]; exact O8.out.set X8.out (by decide) 1 _), Lib.hid (heap_setCell_same w8 X 1 _ _ _ X8.out), Lib.hid ((((HB.out.trans (But.of (B7.out.mono HB.out.size))).trans (But.of (BA.out.mono N7.out))).trans (But.of D8.out)).trans (But.set _ _ _ _ _))⟩
            case measure => simp [intOf]; omega
        · obtain rfl : k = l := by omega
          have FE : Hid ((es.take k).filter (Gr.keepI N es) = Gr.shortI N es) := Lib.hid (by rw [E.out, HN.out, List.take_length])
          have ML : Hid (m = (Gr.shortI N es).length) := Lib.hid (by rw [HM.out, FE.out])
          have OS : Hid (OwnE wr W5.heap.size 24 A' cap' (Gr.shortI N es)) := Lib.hid (by rw [← FE.out]; exact HO.out)
          obtain ⟨⟨v0, v1⟩, v2, v3⟩ := obG RR.out
          clear HM HO
          go_wp2
          exact bodyPost_ret (v := .agg #[.int .i64 (N : Int), .slice A' m cap']) (by simp [results, Try.results26, go_sem, v0, v1]) rfl
            ⟨A', cap', by rw [ML.out], Lib.hid ((OS.out.low B5.out.size).set2 RR.out (by decide) _ _), Lib.hid ((BW.out.setCell (p := ⟨w.heap.size + 1, 0, none⟩) (by simp) _).setCell (p := ⟨w.heap.size + 1, 1, none⟩) (by simp) _)⟩
end Go.Proofs.Ytgeefkfolejbnaa
