/-
  The program's Levels.
-/
import Derived.Test.YtgeefkfolejbnaaToOrder
import Derived.Test.YtgeefkfolejbnaaToRefLev
import Derived.Lib.MinMax
namespace Go.Proofs.Ytgeefkfolejbnaa
open Go.RowKit
set_option maxRecDepth 100000 in
set_option maxHeartbeats 4000000 in
theorem levels_any (n : Int) (A : Option Addr) (es : Gr.EI) (cap : Nat) (hl : es.length ≤ 9223372036854775807) (w : World) (h : Edg w w.heap.size A es) :
    Calls Try.prog 10 #[.agg #[.int .i64 n, .slice A es.length cap]] w (OptG w (To.levelsI n es)) := by
  have OR : Hid (∀ W, Below w.heap.size w W → Calls Try.prog 9 #[.agg #[.int .i64 n, .slice A es.length cap]] W (OptG W (To.orderI n es))) := Lib.hid fun W hW => order_any n A es cap hl W (h.on hW)
  have AH : Hid (∀ W (N : Nat), n = (N : Int) → Gr.Good n es → Below w.heap.size w W → Calls Try.prog 27 #[.agg #[.int .i64 n, .slice A es.length cap]] W (BefG W (Gr.nat es) N)) := Lib.hid fun W N hN hg hW => by
    subst hN
    exact allAhead_any N A es cap hg W (h.on hW)
  generalize es.length = l at *
  clear h hl
  obtain ⟨W1, hW1⟩ : ∃ W1, W1 = w.alloc (.cells #[.int .i64 n, .slice A l cap] 27) := ⟨_, rfl⟩
  have P1 : Hid (W1.heap[w.heap.size]? = some (.cells #[.int .i64 n, .slice A l cap] 27 (0, 0))) := Lib.hid (by rw [hW1]; exact heap_alloc_new ..)
  have B1 : Hid (Below w.heap.size w W1) := Lib.hid (by rw [hW1]; exact (Below.refl _ _).alloc (Nat.le_refl _) _)
  obtain ⟨⟨x0, x1⟩, -⟩ := obG P1.out
  cases hg : To.okI n es with
  | false =>
    have OR1 : Hid (Calls Try.prog 9 #[.agg #[.int .i64 n, .slice A l cap]] W1 (OptN W1)) := Lib.hid ((OR.out _ B1.out).mono fun e w' h => by rw [To.orderI_no hg] at h; exact h.no)
    have E : Hid (To.levelsI n es = none) := Lib.hid (To.levelsI_no hg)
    clear hg
    go_enter Try.func10, Try.ntmps10
    go_wp2_with fail
    rw [← hW1]
    clear hW1
    (with_reducible refine OR1.out.mono ?_); rintro e w2 ⟨A2, c2, rfl, b2⟩
    go_wp2_with fail
    refine bodyPost_ret (v := .tuple #[.slice none 0 0, .bool false]) (by simp [results, Try.results10, go_sem]) rfl ?_
    rw [E.out]
    exact ⟨none, 0, rfl, Lib.hid (Nat.le_refl _), Lib.hid Zs.nil_, Lib.hid (B1.out.trans (b2.out.mono B1.out.size))⟩
  | true =>
    obtain ⟨o, ho, hoI, HO0, hlen⟩ := To.orderI_yes hg
    obtain ⟨hG, hT⟩ := To.okI_iff.1 hg
    obtain ⟨N, hN⟩ : ∃ N : Nat, n = (N : Int) := ⟨n.toNat, by have := hG.n0; omega⟩
    have hN16 : N ≤ 16 := by have := hG.n16; omega
    have AH2 : Hid (∀ W, Below w.heap.size w W → Calls Try.prog 27 #[.agg #[.int .i64 n, .slice A l cap]] W (BefG W (Gr.nat es) N)) := Lib.hid fun W hW => AH.out W N hN hG hW
    subst hN
    rw [Int.toNat_natCast] at HO0 hlen
    have E : Hid (To.levelsI (N : Int) es = some ((List.range N).map fun x => (To.lev (Gr.nat es) N x : Int))) := Lib.hid (by
      rw [To.levelsI_yes hg, Int.toNat_natCast]
      unfold Gr.ints
      rw [List.map_map]
      rfl)
    have OR1 : Hid (Calls Try.prog 9 #[.agg #[.int .i64 (N : Int), .slice A l cap]] W1 (OptY W1 (Gr.ints o) N)) := Lib.hid ((OR.out _ B1.out).mono fun e w' h => by rw [hoI] at h; exact h.yes (by rw [Gr.ints_len, hlen]))
    have LO : Hid (Gr.Low (Gr.nat es) N) := Lib.hid (by have := hG.low; rwa [Int.toNat_natCast] at this)
    have LEN : Hid ((Gr.nat es).length ≤ 256) := Lib.hid (by unfold Gr.nat; rw [List.length_map]; exact hG.len)
    have TH := Lib.hid hT
    have OH := Lib.hid HO0
    have LH := Lib.hid hlen
    have MK := fun W => made_Z N (by omega) W
    clear hg ho hoI HO0 hlen hG hT OR AH
    go_enter Try.func10, Try.ntmps10
    go_wp2_with fail
    rw [← hW1]
    clear hW1
    (with_reducible refine OR1.out.mono ?_); rintro e w2 ⟨A2, c2, rfl, z2, b2⟩
    have P2 : Hid (w2.heap[w.heap.size]? = some (.cells #[.int .i64 (N : Int), .slice A l cap] 27 (0, 0))) := Lib.hid ((b2.out.block _ (lt_of_block P1.out)).trans P1.out)
    have B2 : Hid (Below w.heap.size w w2) := Lib.hid (B1.out.trans (b2.out.mono B1.out.size))
    clear x0 x1 b2 P1 B1 OR1
    obtain ⟨⟨x0, x1⟩, -⟩ := obG P2.out
    go_wp2_with fail
    (with_reducible refine (AH2.out _ B2.out).mono ?_); rintro e w3 ⟨g, rfl, bf3, b3⟩
    have P3 : Hid (w3.heap[w.heap.size]? = some (.cells #[.int .i64 (N : Int), .slice A l cap] 27 (0, 0))) := Lib.hid ((b3.out.block _ (lt_of_block P2.out)).trans P2.out)
    have B3 : Hid (Below w.heap.size w w3) := Lib.hid (B2.out.trans (b3.out.mono B2.out.size))
    have Z3 : Hid (Zs w3 w3.heap.size A2 (Gr.ints o)) := Lib.hid (z2.out.on b3.out)
    clear x0 x1 b3 z2 P2 B2 AH2
    obtain ⟨⟨x0, x1⟩, -⟩ := obG P3.out
    obtain ⟨R, hR⟩ : ∃ R, R = w3.heap.size := ⟨_, rfl⟩
    obtain ⟨W4, hW4⟩ : ∃ W4, W4 = w3.alloc (.cells (madeCells #[.int .i64 0] N) 3) := ⟨_, rfl⟩
    have C4 : Hid (Below R w3 W4) := Lib.hid (by rw [hW4, hR]; exact (Below.refl _ _).alloc (Nat.le_refl _) _)
    have O4 : Hid (OwnZ W4 R (some ⟨R, 0, none⟩) N (List.replicate N 0)) := Lib.hid (by rw [hW4, hR]; exact OwnZ.made w3 N (by omega))
    have XR : Hid (w.heap.size < R) := Lib.hid (by rw [hR]; exact lt_of_block P3.out)
    have ZO : Hid (∀ W, Below R w3 W → Zs W R A2 (Gr.ints o)) := Lib.hid fun W hW => by
      rw [hR] at hW ⊢
      exact Z3.out.below hW
    have BF : Hid (∀ W, Below R w3 W → Bef W R g (Gr.nat es) N) := Lib.hid fun W hW => by
      rw [hR] at hW ⊢
      exact bf3.out.below hW
    have BX : Hid (∀ W, Below R w3 W → Below w.heap.size w W) := Lib.hid fun W hW => B3.out.trans (hW.mono (Nat.le_of_lt XR.out))
    go_wp2_with fail
    rw [← hW4, ← hR]
    clear hW4 hR MK x0 x1 P3 B3 Z3 bf3
    go_loopw [26] (fun iv wr => ∃ (i : Nat) (D : List Int), i ≤ N ∧ iv = .int .i64 i ∧ Hid (To.Lv (Gr.nat es) N o i N 0 D) ∧ Hid (OwnZ wr R (some ⟨R, 0, none⟩) N D) ∧ Hid (Below R w3 wr)) (fun iv _ => N - (intOf iv).toNat)
    case atStart => exact ⟨0, _, Nat.zero_le _, rfl, Lib.hid (To.Lv.zero _ _ _ _), O4, C4⟩
    case round =>
      obtain ⟨i, D, hi, rfl, HD, HO, HB⟩ := hrel
      obtain ⟨wo, hwo⟩ : ∃ wo, wo = wr := ⟨_, rfl⟩
      rw [← hwo] at HO HB ⊢
      clear hwo O4 C4
      by_cases hlt : i < N
      · have hlt' : (i : Int) < (N : Int) := by omega
        have hio : i < o.length := by rw [LH.out]; exact hlt
        obtain ⟨q, hq⟩ : ∃ q, q = o.getD i 0 := ⟨_, rfl⟩
        obtain ⟨b, off, y, rfl, hb, hc, hy, hy0, hy1⟩ := (ZO.out _ HB.out).at_ (k := i) (by rw [Gr.ints_len]; exact hio)
        obtain rfl : y = (q : Int) := by rw [← hy.out, Gr.ints_get, hq]
        have hqN : q < N := by rw [hq]; exact OH.out.low _ (getD_mem hio)
        have hqN' : (q : Int) < (N : Int) := by omega
        have HD1 : Hid (To.Lv (Gr.nat es) N o i q 0 D) := Lib.hid (by rw [hq]; exact HD.out.begin OH.out hio)
        have HQ := Lib.hid hq
        obtain ⟨A5, c5, hg5, hz5⟩ := (BF.out _ HB.out).2 q hqN
        have Z5 : Hid (∀ W, Below R w3 W → Zs W R A5 (Gr.ints (To.befV (Gr.nat es) q))) := Lib.hid fun W hW => by
          obtain ⟨A6, c6, hg6, hz6⟩ := (BF.out _ hW).2 q hqN
          have e1 := (hW.cell (p := ⟨g, q, none⟩) (BF.out _ HB.out).1).symm.trans hg6
          have e2 := (HB.out.cell (p := ⟨g, q, none⟩) (BF.out _ HB.out).1).symm.trans hg5
          rw [e1] at e2
          injection e2 with e2
          injection e2 with e2 _ _
          rw [← e2]; exact hz6
        obtain ⟨bv, hbv⟩ : ∃ bv, bv = To.befV (Gr.nat es) q := ⟨_, rfl⟩
        have AP : Hid (∀ a ∈ bv, a < N ∧ a ≠ q ∧ a ∈ o.take i) := Lib.hid fun a ha => by
          rw [hbv] at ha
          have he := To.mem_bef.1 ha
          rw [HQ.out] at he
          have hm := OH.out.behind i hio a he
          exact ⟨OH.out.low _ (List.mem_of_mem_take hm), fun h => (OH.out.new hio) (by rw [← HQ.out, ← h]; exact hm), hm⟩
        have LV : Hid (To.mx (To.lev (Gr.nat es) N) bv = To.lev (Gr.nat es) N q) := Lib.hid (by rw [hbv, To.lev_eq LO.out TH.out q]; exact To.mx_perm fun a => To.bef_ahead LO.out q a)
        have hlz : bv.length ≤ 256 := by rw [hbv]; exact Nat.le_trans (To.bef_len _ _) LEN.out
        obtain ⟨lz, hz⟩ : ∃ lz, lz = bv.length := ⟨_, rfl⟩
        have LZ := Lib.hid hz
        rw [← hbv, ← hz] at hg5
        rw [← hbv] at Z5
        rw [← hz] at hlz
        clear hy hy0 hy1 HD hq hbv hz hz5
        go_wp2_with fail
        clear hc hg5
        go_loopw [35] (fun iv wr => ∃ (k : Nat) (D' : List Int), k ≤ lz ∧ iv = .int .i64 k ∧ Hid (To.Lv (Gr.nat es) N o i q (To.mx (To.lev (Gr.nat es) N) (bv.take k)) D') ∧ Hid (OwnZ wr R (some ⟨R, 0, none⟩) N D') ∧ Hid (Below R w3 wr)) (fun iv _ => lz - (intOf iv).toNat)
        case atStart => exact ⟨0, D, Nat.zero_le _, rfl, HD1, HO, HB⟩
        case round =>
          obtain ⟨k, D', hk, rfl, HD', HO', HB'⟩ := hrel
          by_cases hlk : k < lz
          · have hlk' : (k : Int) < (lz : Int) := by omega
            have hka : k < bv.length := by rw [← LZ.out]; exact hlk
            obtain ⟨b5, o5, y5, rfl, hb5, hc5, hy5, hy50, hy51⟩ := (Z5.out _ HB'.out).at_ (k := k) (by rw [Gr.ints_len]; exact hka)
            obtain ⟨a, ha⟩ : ∃ a, a = bv.getD k 0 := ⟨_, rfl⟩
            obtain rfl : y5 = (a : Int) := by rw [← hy5.out, Gr.ints_get, ha]
            obtain ⟨haN, haq, hao⟩ := AP.out a (by rw [ha]; exact getD_mem hka)
            have haN' : (a : Int) < (N : Int) := by omega
            have hda := HO'.out.val (i := a) (by rw [HD'.out.len]; exact haN)
            have hdq := HO'.out.val (i := q) (by rw [HD'.out.len]; exact hqN)
            rw [HD'.out.at_ a haN, if_neg haq, if_pos hao] at hda
            rw [HD'.out.at_ q hqN, if_pos rfl] at hdq
            have hf := HO'.out.thaw q
            have MS : Hid (To.mx (To.lev (Gr.nat es) N) (bv.take (k + 1)) = max (To.mx (To.lev (Gr.nat es) N) (bv.take k)) (To.lev (Gr.nat es) N a + 1)) := Lib.hid (by rw [take_getD hka ha.symm, To.mx_snoc])
            have hla := To.lev_lt LO.out TH.out haN
            obtain ⟨la, hla'⟩ : ∃ la, la = To.lev (Gr.nat es) N a := ⟨_, rfl⟩
            obtain ⟨mv, hmv⟩ : ∃ mv, mv = To.mx (To.lev (Gr.nat es) N) (bv.take k) := ⟨_, rfl⟩
            rw [← hla'] at hda hla MS
            rw [← hmv] at hdq MS HD'
            obtain ⟨u, hu⟩ : ∃ u : Int, u = (la : Int) := ⟨_, rfl⟩
            obtain ⟨v, hv⟩ : ∃ v : Int, v = (mv : Int) := ⟨_, rfl⟩
            rw [← hu] at hda
            rw [← hv] at hdq
            obtain ⟨m, hm⟩ : ∃ m : Int, m = max v (u + 1) := ⟨_, rfl⟩
            have MV : Hid (max v (IntKind.i64.wrap (u + 1)) = m) := Lib.hid (by rw [IntWalk.i64_in _ (by omega), hm])
            have D2 : Hid (To.Lv (Gr.nat es) N o i q (To.mx (To.lev (Gr.nat es) N) (bv.take (k + 1))) (D'.set q m)) := Lib.hid (by
              have h1 := HD'.out.put (v' := To.mx (To.lev (Gr.nat es) N) (bv.take (k + 1))) hqN
              have e : ((To.mx (To.lev (Gr.nat es) N) (bv.take (k + 1)) : Nat) : Int) = m := by rw [MS.out, hm, hv, hu]; omega
              rwa [e] at h1)
            have IM : Hid (inI m) := Lib.hid (by
              have h1 := HO'.out.2 q (by rw [HD'.out.len]; exact hqN)
              rw [HD'.out.at_ q hqN, if_pos rfl, ← hv] at h1
              have h2 := h1.1
              have h3 := h1.2
              rw [hm]
              exact ⟨by omega, by omega⟩)
            have SS := Lib.hid (And.intro hda hdq)
            clear hy5 hy50 hy51 hla hla' hmv hu hv hm ha MS
            go_wp2_with fail
            refine wp_region_C (fun w' => w'.cell? ⟨R, a, none⟩ = some (.int .i64 u) ∧ w'.cell? ⟨R, q, none⟩ = some (.int .i64 v)) 13 (by kernel_rfl) ?_
            have hS0 : (fun w' : World => w'.cell? ⟨R, a, none⟩ = some (.int .i64 u) ∧ w'.cell? ⟨R, q, none⟩ = some (.int .i64 v)) wr.drew := SS.out
            refine wpAnyC_take (i := 0) (oi := ?o1) (v := ?v1) ?hi1 (by kernel_rfl) (by kernel_rfl) (by kernel_rfl) ?hQ1 (by kernel_rfl) (by decide) (by kernel_rfl) (Or.inl ⟨?hg1, ?hy1⟩) (by assumption) ?rest1
            case hi1 => (simp only [List.getElem?_toArray, List.getElem?_cons_zero]; exact rfl)
            case hQ1 => exact fun _ _ _ h => h
            case hg1 => rfl
            case hy1 => (intro w' hSw; (try dsimp only at hSw); go_simp; try with_reducible rfl)
            try simp only [Act.put, List.setIfInBounds_toArray, List.set_cons_zero, List.set_cons_succ]
            refine wpAnyC_take (i := 1) (oi := ?o2) (v := ?v2) ?hi2 (by kernel_rfl) (by kernel_rfl) (by kernel_rfl) ?hQ2 (by kernel_rfl) (by decide) (by kernel_rfl) (Or.inl ⟨?hg2, ?hy2⟩) (by assumption) ?rest2
            case hi2 => (simp only [List.getElem?_toArray, List.getElem?_cons_zero, List.getElem?_cons_succ]; exact rfl)
            case hQ2 => exact fun _ _ _ h => h
            case hg2 => rfl
            case hy2 => (intro w' hSw; (try dsimp only at hSw); go_simp; try with_reducible rfl)
            try simp only [Act.put, List.setIfInBounds_toArray, List.set_cons_zero, List.set_cons_succ]
            refine wpAnyC_take (i := 2) (oi := ?o3) (v := ?v3) ?hi3 (by kernel_rfl) (by kernel_rfl) (by kernel_rfl) ?hQ3 (by kernel_rfl) (by decide) (by kernel_rfl) (Or.inl ⟨?hg3, ?hy3⟩) (by assumption) ?rest3
            case hi3 => (simp only [List.getElem?_toArray, List.getElem?_cons_zero, List.getElem?_cons_succ]; exact rfl)
            case hQ3 => exact fun _ _ _ h => h
            case hg3 => rfl
            case hy3 => (intro w' hSw; (try dsimp only at hSw); go_simp; try with_reducible rfl)
            try simp only [Act.put, List.setIfInBounds_toArray, List.set_cons_zero, List.set_cons_succ]
            refine wpAnyC_take (i := 3) (oi := ?o4) (v := ?v4) ?hi4 (by kernel_rfl) (by kernel_rfl) (by kernel_rfl) ?hQ4 (by kernel_rfl) (by decide) (by kernel_rfl) (Or.inl ⟨?hg4, ?hy4⟩) (by assumption) ?rest4
            case hi4 => (simp only [List.getElem?_toArray, List.getElem?_cons_zero, List.getElem?_cons_succ]; exact rfl)
            case hQ4 => exact fun _ _ _ h => h
            case hg4 => rfl
            case hy4 => (intro w' hSw; (try dsimp only at hSw); go_simp; try with_reducible rfl)
            try simp only [Act.put, List.setIfInBounds_toArray, List.set_cons_zero, List.set_cons_succ]
            refine wpAnyC_take (i := 4) (oi := ?o5) (v := ?v5) ?hi5 (by kernel_rfl) (by kernel_rfl) (by kernel_rfl) ?hQ5 (by kernel_rfl) (by decide) (by kernel_rfl) (Or.inl ⟨?hg5, ?hy5⟩) (by assumption) ?rest5
            case hi5 => (simp only [List.getElem?_toArray, List.getElem?_cons_zero, List.getElem?_cons_succ]; exact rfl)
            case hQ5 => exact fun _ _ _ h => h
            case hg5 => rfl
            case hy5 => (intro w' hSw; (try dsimp only at hSw); go_simp; try with_reducible rfl)
            try simp only [Act.put, List.setIfInBounds_toArray, List.set_cons_zero, List.set_cons_succ]
            refine wpAnyC_take (i := 5) (oi := ?o6) (v := ?v6) ?hi6 (by kernel_rfl) (by kernel_rfl) (by kernel_rfl) ?hQ6 (by kernel_rfl) (by decide) (by kernel_rfl) (Or.inl ⟨?hg6, ?hy6⟩) (by assumption) ?rest6
            case hi6 => (simp only [List.getElem?_toArray, List.getElem?_cons_zero, List.getElem?_cons_succ]; exact rfl)
            case hQ6 => exact fun _ _ _ h => h
            case hg6 => rfl
            case hy6 => (intro w' hSw; (try dsimp only at hSw); go_simp; try with_reducible rfl)
            try simp only [Act.put, List.setIfInBounds_toArray, List.set_cons_zero, List.set_cons_succ]
            refine wpAnyC_take (i := 6) (oi := ?o7) (v := ?v7) ?hi7 (by kernel_rfl) (by kernel_rfl) (by kernel_rfl) ?hQ7 (by kernel_rfl) (by decide) (by kernel_rfl) (Or.inl ⟨?hg7, ?hy7⟩) (by assumption) ?rest7
            case hi7 => (simp only [List.getElem?_toArray, List.getElem?_cons_zero, List.getElem?_cons_succ]; exact rfl)
            case hQ7 => exact fun _ _ _ h => h
            case hg7 => rfl
            case hy7 => (intro w' hSw; (try dsimp only at hSw); go_simp; try with_reducible rfl)
            try simp only [Act.put, List.setIfInBounds_toArray, List.set_cons_zero, List.set_cons_succ]
            refine wpAnyC_take (i := 7) (oi := ?o8) (v := ?v8) ?hi8 (by kernel_rfl) (by kernel_rfl) (by kernel_rfl) ?hQ8 (by kernel_rfl) (by decide) (by kernel_rfl) (Or.inl ⟨?hg8, ?hy8⟩) (by assumption) ?rest8
            case hi8 => (simp only [List.getElem?_toArray, List.getElem?_cons_zero, List.getElem?_cons_succ]; exact rfl)
            case hQ8 => exact fun _ _ _ h => h
            case hg8 => rfl
            case hy8 => (intro w' hSw; (try dsimp only at hSw); go_simp; try with_reducible rfl)
            try simp only [Act.put, List.setIfInBounds_toArray, List.set_cons_zero, List.set_cons_succ]
            refine wpAnyC_take (i := 8) (oi := ?o9) (v := ?v9) ?hi9 (by kernel_rfl) (by kernel_rfl) (by kernel_rfl) ?hQ9 (by kernel_rfl) (by decide) (by kernel_rfl) (Or.inl ⟨?hg9, ?hy9⟩) (by assumption) ?rest9
            case hi9 => (simp only [List.getElem?_toArray, List.getElem?_cons_zero, List.getElem?_cons_succ]; exact rfl)
            case hQ9 => exact fun _ _ _ h => h
            case hg9 => rfl
            case hy9 => (intro w' hSw; (try dsimp only at hSw); go_simp; try with_reducible rfl)
            try simp only [Act.put, List.setIfInBounds_toArray, List.set_cons_zero, List.set_cons_succ]
            refine wpAnyC_take (i := 9) (oi := ?o10) (v := ?v10) ?hi10 (by kernel_rfl) (by kernel_rfl) (by kernel_rfl) ?hQ10 (by kernel_rfl) (by decide) (by kernel_rfl) (Or.inl ⟨?hg10, ?hy10⟩) (by assumption) ?rest10
            case hi10 => (simp only [List.getElem?_toArray, List.getElem?_cons_zero, List.getElem?_cons_succ]; exact rfl)
            case hQ10 => exact fun _ _ _ h => h
            case hg10 => rfl
            case hy10 => (intro w' hSw; (try dsimp only at hSw); go_simp; try with_reducible rfl)
            try simp only [Act.put, List.setIfInBounds_toArray, List.set_cons_zero, List.set_cons_succ]
            refine wpAnyC_take (i := 10) (oi := ?o11) (v := ?v11) ?hi11 (by kernel_rfl) (by kernel_rfl) (by kernel_rfl) ?hQ11 (by kernel_rfl) (by decide) (by kernel_rfl) (Or.inl ⟨?hg11, ?hy11⟩) (by assumption) ?rest11
            case hi11 => (simp only [List.getElem?_toArray, List.getElem?_cons_zero, List.getElem?_cons_succ]; exact rfl)
            case hQ11 => exact fun _ _ _ h => h
            case hg11 => rfl
            case hy11 => (intro w' hSw; (try dsimp only at hSw); go_simp; try with_reducible rfl)
            try simp only [Act.put, List.setIfInBounds_toArray, List.set_cons_zero, List.set_cons_succ]
            clear hdq
            refine wpAnyC_one (i := 11) (oi := ?o12) ?hi12 (by kernel_rfl) ?step12
            case hi12 => (simp only [List.getElem?_toArray, List.getElem?_cons_zero, List.getElem?_cons_succ]; exact rfl)
            intro K' hK
            (go_simp; rw [MV.out])
            refine hK.out _ _ ?_ (fun hHeld => ?_)
            · exact fun _ => SS.out
            clear hK K' hHeld
            try simp only [Act.put, List.setIfInBounds_toArray, List.set_cons_zero, List.set_cons_succ]
            have hdq := SS.out.2
            refine wpAnyC_one (i := 12) (oi := ?o13) ?hi13 (by kernel_rfl) ?step13
            case hi13 => (simp only [List.getElem?_toArray, List.getElem?_cons_zero, List.getElem?_cons_succ]; exact rfl)
            intro K' hK
            go_simp
            refine hK.out _ _ ?_ (fun hHeld => ?_)
            · exact fun _ => SS.out
            clear hK K' hHeld
            try simp only [Act.put, List.setIfInBounds_toArray, List.set_cons_zero, List.set_cons_succ]
            refine wpAnyC_one (i := 13) (oi := ?o14) ?hi14 (by kernel_rfl) ?step14
            case hi14 => (simp only [List.getElem?_toArray, List.getElem?_cons_zero, List.getElem?_cons_succ]; exact rfl)
            intro K' hK
            go_simp
            refine hK.out _ _ ?_ (fun hHeld => ?_)
            · exact fun h => (by cases h)
            clear hK K' hHeld
            try simp only [Act.put, List.setIfInBounds_toArray, List.set_cons_zero, List.set_cons_succ]
            clear hda hdq hf
            refine wpAnyC_done (by kernel_rfl) ?_ _
            go_wp2
            go_roundw
            case rel => exact ⟨k + 1, _, by omega, by go_num, D2, Lib.hid (OwnZ.stored (w := wr.drew) HO'.out q m IM.out), Lib.hid (HB'.out.drew.setCell (p := ⟨R, q, none⟩) (Nat.le_refl R) _)⟩
            case measure => simp [intOf]; omega
          · obtain rfl : lz = k := by omega
            have D2 : Hid (To.Lv (Gr.nat es) N o (i + 1) N 0 D') := Lib.hid (To.Lv.finish hio (by
              have h := HD'.out
              rw [LZ.out, List.take_length, LV.out] at h
              rw [← HQ.out]; exact h))
            go_wp2
            go_roundw
            case rel => exact ⟨i + 1, D', by omega, by go_num, D2, HO', HB'⟩
            case measure => simp [intOf]; omega
      · obtain rfl : N = i := by omega
        have ED : Hid (D = (List.range N).map fun x => (To.lev (Gr.nat es) N x : Int)) := Lib.hid (all_get HD.out.len fun x hx => by
          rw [HD.out.at_ x hx, if_neg (by omega), if_pos]
          rw [← LH.out, List.take_length]
          exact To.nodup_full OH.out.once OH.out.low LH.out x hx)
        go_wp2_with fail
        refine bodyPost_ret (v := .tuple #[.slice (some ⟨R, 0, none⟩) N N, .bool true]) (by simp [results, Try.results10, go_sem]) rfl ?_
        rw [E.out, ← ED.out]
        exact ⟨some ⟨R, 0, none⟩, N, by rw [show ((some D).getD []).length = N from HD.out.len]; rfl, Lib.hid (show ((some D).getD []).length ≤ N by rw [show ((some D).getD []).length = N from HD.out.len]; exact Nat.le_refl _), Lib.hid HO.out.zs, Lib.hid (BX.out _ HB.out)⟩
end Go.Proofs.Ytgeefkfolejbnaa
