/-
  The law GraphCycles walked.
-/
import Derived.Test.YtiapacbbfgihdaaGrThree
import Derived.Test.YtiapacbbfgihdaaGrAcross
import Derived.Test.YtiapacbbfgihdaaGrCycle
import Derived.Test.YtiapacbbfgihdaaGrLawsP
namespace Go.Proofs.Ytiapacbbfgihdaa
open Go.RowKit
theorem take_has {R : List Int} {i : Nat} (hi : i < R.length) (k : Int) : (R.take (i + 1)).contains k = ((R.take i).contains k || (R.getD i 0 == k)) := by
  have e : R.getD i 0 = R[i] := by rw [List.getD_eq_getElem?_getD, List.getElem?_eq_getElem hi]; rfl
  rw [List.take_succ_eq_append_getElem hi, e, Bool.eq_iff_iff, List.contains_iff_mem, Bool.or_eq_true, List.contains_iff_mem, List.mem_append, beq_iff_eq]
  constructor
  · rintro (h | h)
    · exact .inl h
    · simp at h; exact .inr h.symm
  · rintro (h | h)
    · exact .inl h
    · exact .inr (by simp [h])
def Gr.selfB (es : Gr.E) (n k : Nat) : Bool := (List.range k).any fun a => decide (a ∈ Gr.reachV es n a)
theorem Gr.selfB_next (es : Gr.E) (n k : Nat) : Gr.selfB es n (k + 1) = (Gr.selfB es n k || decide (k ∈ Gr.reachV es n k)) := by
  unfold Gr.selfB
  rw [List.range_succ, List.any_append]
  simp
theorem Gr.selfB_all {es : Gr.E} {n : Nat} (hl : Gr.Low es n) : Gr.selfB es n n = decide (0 < (Gr.cycleV es n).length) := by
  rw [Bool.eq_iff_iff, decide_eq_true_eq]
  unfold Gr.selfB
  rw [List.any_eq_true]
  constructor
  · rintro ⟨a, _, h⟩
    obtain ⟨k, hk, hr⟩ := (Gr.mem_reach hl).1 (of_decide_eq_true h)
    apply List.length_pos_iff.2
    intro he
    rw [(Gr.cycle_none hl).1 he k a hk] at hr
    cases hr
  · intro h
    have h0 : ¬ Gr.Tree es := fun ht => by rw [(Gr.cycle_none hl).2 ht] at h; simp at h
    by_cases hx : ∃ a, a ∈ List.range n ∧ decide (a ∈ Gr.reachV es n a) = true
    · exact hx
    · exfalso
      apply h0
      intro k a hk
      cases hr : Gr.rk es k a a with
      | false => rfl
      | true =>
        exfalso
        obtain ⟨j, rfl⟩ : ∃ j, k = j + 1 := ⟨k - 1, by omega⟩
        exact hx ⟨a, List.mem_range.2 (Gr.rk_low hl hr).1, decide_eq_true ((Gr.mem_reach hl).2 ⟨j + 1, hk, hr⟩)⟩
theorem Gr.reach_len (es : Gr.E) (n a : Nat) : (Gr.reachV es n a).length ≤ n := by
  unfold Gr.reachV
  exact Nat.le_trans (List.length_filter_le _ _) (by rw [List.length_range]; exact Nat.le_refl _)
theorem Gr.ahead_len (es : Gr.E) (n a : Nat) : (Gr.aheadV es n a).length ≤ n := by
  unfold Gr.aheadV
  exact Nat.le_trans (List.length_filter_le _ _) (by rw [List.length_range]; exact Nat.le_refl _)
theorem Gr.ahead_lt {es : Gr.E} {n a b : Nat} (h : b ∈ Gr.aheadV es n a) : b < n := by
  unfold Gr.aheadV at h
  exact List.mem_range.1 (List.mem_filter.1 h).1
theorem beq_int_false {a b : Int} (h : a ≠ b) : (a == b) = false := by simpa using h
set_option maxRecDepth 100000 in
set_option maxHeartbeats 8000000 in
theorem cycles_walk (A : Option Addr) (es : List (Int × Int)) (cap : Nat) (n : Int) (w : World) (hl : es.length ≤ 9223372036854775807) (hcap : es.length ≤ cap) (h : Edg w w.heap.size A es) :
    Calls Try.prog 5 #[.agg #[.int .i64 n, .slice A es.length cap]] w (BoolG w true) := by
  have AW : Hid (∀ W, Calls Try.prog 8 #[] W (BoolG W true)) := Lib.hid awake_any
  have GD : Hid (es.length ≤ 60 → ∀ W, Below w.heap.size w W → Calls Try.prog 9 #[.agg #[.int .i64 n, .slice A es.length cap]] W (BoolG W (Gr.goodV n es))) := Lib.hid fun hs W hW => good_any n A es cap (by omega) W (h.on hW)
  have RE : Hid (es.length ≤ 60 → ∀ W (x : Int), inI x → Below w.heap.size w W → Calls Try.prog 12 #[.agg #[.int .i64 n, .slice A es.length cap], .int .i64 x] W (ListG W (Gr.reachI n es x))) := Lib.hid fun hs W x hx hW => reach_any n A es cap x hx (by omega) W (h.on hW)
  have AE : Hid (es.length ≤ 60 → ∀ W (x : Int), Below w.heap.size w W → Calls Try.prog 11 #[.agg #[.int .i64 n, .slice A es.length cap], .int .i64 x] W (ListG W (Gr.aheadI n es x))) := Lib.hid fun hs W x hW => ahead_any n A es cap x (by omega) W (h.on hW)
  have CE : Hid (es.length ≤ 60 → ∀ W, Below w.heap.size w W → Calls Try.prog 10 #[.agg #[.int .i64 n, .slice A es.length cap]] W (ListG W (Gr.cycleI n es))) := Lib.hid fun hs W hW => cycle_any n A es cap (by omega) W (h.on hW)
  generalize es.length = l at *
  obtain ⟨W1, hW1⟩ : ∃ W1, W1 = w.alloc (.cells #[.int .i64 n, .slice A l cap] 25) := ⟨_, rfl⟩
  have P1 : Hid (W1.heap[w.heap.size]? = some (.cells #[.int .i64 n, .slice A l cap] 25 (0, 0))) := Lib.hid (by rw [hW1]; exact heap_alloc_new ..)
  have B1 : Hid (Below w.heap.size w W1) := Lib.hid (by rw [hW1]; exact (Below.refl _ _).alloc (Nat.le_refl _) _)
  clear h hl hcap
  go_enter Try.func5, Try.ntmps5
  go_wp2_with fail
  rw [← hW1]
  clear hW1
  (with_reducible refine (AW.out _).mono ?_); rintro e w2 ⟨rfl, b2⟩
  have P2 : Hid (w2.heap[w.heap.size]? = some (.cells #[.int .i64 n, .slice A l cap] 25 (0, 0))) := Lib.hid ((b2.out.block _ (lt_of_block P1.out)).trans P1.out)
  have B2 : Hid (Below w.heap.size w w2) := Lib.hid (B1.out.trans (b2.out.mono B1.out.size))
  clear b2
  obtain ⟨⟨y0, y1⟩, -⟩ := obG P2.out
  by_cases h60 : 60 < l
  · have h60' : (60 : Int) < (l : Int) := by omega
    go_wp2
    go_ret
    exact ⟨rfl, B2⟩
  have h60' : (l : Int) ≤ 60 := by omega
  have GD2 := Lib.hid (GD.out (by omega))
  have RE2 := Lib.hid (RE.out (by omega))
  have AE2 := Lib.hid (AE.out (by omega))
  have CE2 := Lib.hid (CE.out (by omega))
  clear h60 GD RE AE CE
  cases hg : Gr.goodV n es with
  | false =>
    rw [hg] at GD2
    clear hg
    go_wp2_with fail
    (with_reducible refine (GD2.out _ B2.out).mono ?_); rintro e w3 ⟨rfl, b3⟩
    go_wp2
    go_ret
    exact ⟨rfl, Lib.hid (B2.out.trans (b3.out.mono B2.out.size))⟩
  | true =>
    rw [hg] at GD2
    have HG := Lib.hid (Gr.goodV_iff.1 hg)
    clear hg
    go_wp2_with fail
    (with_reducible refine (GD2.out _ B2.out).mono ?_); rintro e w3 ⟨rfl, b3⟩
    have P3 : Hid (w3.heap[w.heap.size]? = some (.cells #[.int .i64 n, .slice A l cap] 25 (0, 0))) := Lib.hid ((b3.out.block _ (lt_of_block P2.out)).trans P2.out)
    have B3 : Hid (Below w.heap.size w w3) := Lib.hid (B2.out.trans (b3.out.mono B2.out.size))
    clear b3 y0 y1
    obtain ⟨⟨y0, y1⟩, -⟩ := obG P3.out
    obtain ⟨N, hN⟩ : ∃ N : Nat, n = (N : Int) := ⟨n.toNat, by have := HG.out.n0; omega⟩
    subst hN
    have hN16 : N ≤ 16 := by have := HG.out.n16; omega
    have CEa : Hid (Calls Try.prog 10 #[.agg #[.int .i64 (N : Int), .slice A l cap]] w3 (ListG w3 (Gr.ints (Gr.cycleV (Gr.nat es) N)))) := Lib.hid (by
      have := CE2.out w3 B3.out
      rwa [Gr.cycleI_good HG.out, Int.toNat_natCast] at this)
    have CS := Lib.hid (Gr.cycle_spec (Gr.low_nat HG.out))
    have CN := Lib.hid (Gr.selfB_all (Gr.low_nat HG.out))
    clear CE2
    go_wp2_with fail
    (with_reducible refine CEa.out.mono ?_); rintro e w4 ⟨A4, c4, rfl, o4, b4⟩
    have LN : Hid ((Gr.ints (Gr.cycleV (Gr.nat es) N)).length = (Gr.cycleV (Gr.nat es) N).length) := Lib.hid (Gr.ints_len _)
    have GT : Hid (∀ i, (Gr.ints (Gr.cycleV (Gr.nat es) N)).getD i 0 = (((Gr.cycleV (Gr.nat es) N).getD i 0 : Nat) : Int)) := Lib.hid (Gr.ints_get _)
    rw [LN.out]
    obtain ⟨m, hm⟩ : ∃ m, m = (Gr.cycleV (Gr.nat es) N).length := ⟨_, rfl⟩
    obtain ⟨C, hC⟩ : ∃ C, C = Gr.cycleV (Gr.nat es) N := ⟨_, rfl⟩
    have ZC : Hid (Zs w4 w4.heap.size A4 (Gr.ints C)) := Lib.hid (by rw [hC]; exact o4.out.zs)
    rw [← hm, ← hC] at LN CS
    rw [← hm] at CN
    rw [← hm]
    rw [← hC] at GT
    have hm16 : m ≤ 16 := by have := CS.out.2; omega
    have P4 : Hid (w4.heap[w.heap.size]? = some (.cells #[.int .i64 (N : Int), .slice A l cap] 25 (0, 0))) := Lib.hid ((b4.out.block _ (lt_of_block P3.out)).trans P3.out)
    have B4 : Hid (Below w.heap.size w w4) := Lib.hid (B3.out.trans (b4.out.mono B3.out.size))
    clear hm hC o4 b4 CEa y0 y1
    go_wp2_with fail
    go_loopw [4, 5] (fun sv iv wr => ∃ k : Nat, k ≤ N ∧ iv = .int .i64 k ∧ sv = .bool (Gr.selfB (Gr.nat es) N k) ∧ Hid (Below w4.heap.size w4 wr)) (fun _ iv _ => N - (intOf iv).toNat)
    case atStart => exact ⟨0, Nat.zero_le _, rfl, rfl, Lib.hid (Below.refl _ _)⟩
    case round =>
      obtain ⟨k, hk, rfl, rfl, HB⟩ := hrel
      have PR : Hid (wr.heap[w.heap.size]? = some (.cells #[.int .i64 (N : Int), .slice A l cap] 25 (0, 0))) := Lib.hid ((HB.out.block _ (lt_of_block P4.out)).trans P4.out)
      obtain ⟨⟨x0, x1⟩, -⟩ := obG PR.out
      by_cases hlt : k < N
      · have hlt' : (k : Int) < (N : Int) := by omega
        have REk : Hid (Calls Try.prog 12 #[.agg #[.int .i64 (N : Int), .slice A l cap], .int .i64 (k : Int)] wr (ListG wr (Gr.ints (Gr.reachV (Gr.nat es) N k)))) := Lib.hid (by
          have := RE2.out wr k ⟨by omega, by omega⟩ (B4.out.trans (HB.out.mono B4.out.size))
          rwa [Gr.reachI_eq HG.out] at this)
        have NX := Lib.hid (Gr.selfB_next (Gr.nat es) N k)
        have h16 := Gr.reach_len (Gr.nat es) N k
        have HC : Hid ((Gr.ints (Gr.reachV (Gr.nat es) N k)).contains (k : Int) = decide (k ∈ Gr.reachV (Gr.nat es) N k)) := Lib.hid (Gr.ints_contains _ _)
        have LR : Hid ((Gr.ints (Gr.reachV (Gr.nat es) N k)).length = (Gr.reachV (Gr.nat es) N k).length) := Lib.hid (Gr.ints_len _)
        rw [← HC.out] at NX
        generalize Gr.selfB (Gr.nat es) N k = sb at *
        go_wp2_with fail
        (with_reducible refine REk.out.mono ?_); rintro e w6 ⟨A6, c6, rfl, o6, b6⟩
        rw [← LR.out] at h16
        have Z6 : Hid (Zs w6 w6.heap.size A6 (Gr.ints (Gr.reachV (Gr.nat es) N k))) := Lib.hid o6.out.zs
        obtain ⟨R, hR⟩ : ∃ R, R = Gr.ints (Gr.reachV (Gr.nat es) N k) := ⟨_, rfl⟩
        rw [← hR] at h16 NX Z6 ⊢
        obtain ⟨mr, hmr⟩ : ∃ mr, mr = R.length := ⟨_, rfl⟩
        have MR := Lib.hid hmr
        rw [← hmr] at h16 ⊢
        have TA : Hid (R.take mr = R) := Lib.hid (by rw [hmr]; exact List.take_length)
        have B6 : Hid (Below w4.heap.size w4 w6) := Lib.hid (HB.out.trans (b6.out.mono HB.out.size))
        clear hmr hR REk o6 b6 x0 x1 HC LR PR HB
        obtain ⟨wq, rfl⟩ : ∃ wq, wq = wr := ⟨_, rfl⟩
        go_wp2_with fail
        go_loopw [4, 7] (fun sv iv wr => ∃ i : Nat, i ≤ mr ∧ iv = .int .i64 i ∧ sv = .bool (sb || (R.take i).contains (k : Int)) ∧ Hid (Below w6.heap.size w6 wr)) (fun _ iv _ => mr - (intOf iv).toNat)
        case atStart => exact ⟨0, Nat.zero_le _, rfl, by rw [List.take_zero]; simp, Lib.hid (Below.refl _ _)⟩
        case round =>
          obtain ⟨i, hi, rfl, rfl, HB⟩ := hrel
          by_cases hlt2 : i < mr
          · have hlt2' : (i : Int) < (mr : Int) := by omega
            have TK := Lib.hid (take_has (R := R) (i := i) (by rw [← MR.out]; exact hlt2) (k : Int))
            obtain ⟨b, off, z, rfl, hb, hc, hz, _, _⟩ := (Z6.out.below HB.out).at_ (k := i) (by rw [← MR.out]; exact hlt2)
            rw [hz.out] at TK
            clear hz
            cases hs : (sb || (R.take i).contains (k : Int)) with
            | true =>
              have E1 : Hid ((sb || (R.take (i + 1)).contains (k : Int)) = true) := Lib.hid (by rw [TK.out, ← Bool.or_assoc, hs]; rfl)
              clear hs TK
              go_wp2
              go_roundw
              case rel => exact ⟨i + 1, by omega, by go_num, by rw [E1.out], HB⟩
              case measure => simp [intOf]; omega
            | false =>
              have E1 : Hid ((sb || (R.take (i + 1)).contains (k : Int)) = (z == (k : Int))) := Lib.hid (by rw [TK.out, ← Bool.or_assoc, hs]; rfl)
              clear hs TK
              go_wp2
              go_roundw
              case rel => exact ⟨i + 1, by omega, by go_num, by rw [E1.out], HB⟩
              case measure => simp [intOf]; omega
          · obtain rfl : mr = i := by omega
            go_wp2
            go_roundw
            case rel => exact ⟨k + 1, by omega, by go_num, by rw [NX.out, TA.out], Lib.hid (B6.out.trans (HB.out.mono B6.out.size))⟩
            case measure => simp [intOf]; omega
      · obtain rfl : N = k := by omega
        rw [CN.out]
        have B5 : Hid (Below w.heap.size w wr) := Lib.hid (B4.out.trans (HB.out.mono B4.out.size))
        clear hk hlt CN
        obtain ⟨wq, rfl⟩ : ∃ wq, wq = wr := ⟨_, rfl⟩
        rcases Nat.eq_zero_or_pos m with hm0 | hm0
        · subst hm0
          rw [show decide (0 < 0) = false from rfl]
          go_wp2_with fail
          go_loopw [8] (fun iv wr => iv = .int .i64 0 ∧ Hid (Below w.heap.size w wr)) (fun _ _ => 0)
          case atStart => exact ⟨rfl, B5⟩
          case round =>
            obtain ⟨rfl, HBB⟩ := hrel
            go_wp2
            go_ret
            exact ⟨rfl, HBB⟩
        · rw [decide_eq_true hm0]
          have hm0' : (0 : Int) < (m : Int) := by omega
          have hmz : (m : Int) ≠ 0 := by omega
          obtain ⟨b, off, rfl, hb, hcc⟩ := ZC.out.2 (by rw [LN.out]; exact hm0)
          have KC : Hid (∀ w', Below w4.heap.size w4 w' → ∀ j, j < m → w'.cell? ⟨b, off + j, none⟩ = some (.int .i64 ((C.getD j 0 : Nat) : Int))) := Lib.hid fun w' hw j hj => by
            rw [(hw.cell (p := ⟨b, off + j, none⟩) hb), ← GT.out]
            exact hcc j (by rw [LN.out]; exact hj)
          clear hcc hb ZC GT LN
          go_wp2_with fail
          go_loopw [8] (fun iv wr => ∃ i : Nat, i ≤ m ∧ iv = .int .i64 i ∧ Hid (Below wq.heap.size wq wr)) (fun iv _ => m - (intOf iv).toNat)
          case atStart => exact ⟨0, Nat.zero_le _, rfl, Lib.hid (Below.refl _ _)⟩
          case round =>
            obtain ⟨i, hi, rfl, HD⟩ := hrel
            have D4 : Hid (Below w4.heap.size w4 wr) := Lib.hid (HB.out.trans (HD.out.mono HB.out.size))
            by_cases hlt : i < m
            · have hlt' : (i : Int) < (m : Int) := by omega
              have hqm : (i + 1) % m < m := Nat.mod_lt _ hm0
              have hqi : ((i : Int) + 1) % (m : Int) < (m : Int) := Int.emod_lt_of_pos _ hm0'
              have hqj : 0 ≤ ((i : Int) + 1) % (m : Int) := Int.emod_nonneg _ hmz
              obtain ⟨k1, k2, k3, k4⟩ := CS.out.1 i hlt
              have K2 := Lib.hid k2
              have K3 := Lib.hid k3
              have K4 := Lib.hid k4
              have hcq := KC.out wr D4.out ((i + 1) % m) hqm
              clear k2 k3 k4
              obtain ⟨nx, hnx⟩ : ∃ nx, nx = C.getD ((i + 1) % m) 0 := ⟨_, rfl⟩
              rw [← hnx] at hcq K2
              clear hnx
              have PS : Hid (wr.heap[w.heap.size]? = some (.cells #[.int .i64 (N : Int), .slice A l cap] 25 (0, 0))) := Lib.hid ((HD.out.block _ (lt_of_block PR.out)).trans PR.out)
              obtain ⟨⟨x0, x1⟩, -⟩ := obG PS.out
              have AEk : Hid (Calls Try.prog 11 #[.agg #[.int .i64 (N : Int), .slice A l cap], .int .i64 (nx : Int)] wr (ListG wr (Gr.ints (Gr.aheadV (Gr.nat es) N nx)))) := Lib.hid (by
                have := AE2.out wr nx (B4.out.trans (D4.out.mono B4.out.size))
                rwa [Gr.aheadI_eq HG.out] at this)
              go_wp2_with fail
              (with_reducible refine AEk.out.mono ?_); rintro e w6 ⟨A6, c6, rfl, o6, b6⟩
              obtain ⟨R, hR⟩ : ∃ R, R = Gr.ints (Gr.aheadV (Gr.nat es) N nx) := ⟨_, rfl⟩
              have h16 : R.length ≤ N := by rw [hR, Gr.ints_len]; exact Gr.ahead_len _ _ _
              have FD : Hid (R.contains ((C.getD i 0 : Nat) : Int) = true) := Lib.hid (by
                rw [hR, Gr.ints_contains]
                exact decide_eq_true ((Gr.mem_ahead (Gr.low_nat HG.out)).2 K2.out))
              have Z6 : Hid (Zs w6 w6.heap.size A6 R) := Lib.hid (by rw [hR]; exact o6.out.zs)
              rw [← hR]
              obtain ⟨mr, hmr⟩ : ∃ mr, mr = R.length := ⟨_, rfl⟩
              have MR := Lib.hid hmr
              have TA : Hid (R.take mr = R) := Lib.hid (by rw [hmr]; exact List.take_length)
              rw [← hmr] at h16 ⊢
              have D6 : Hid (Below w4.heap.size w4 w6) := Lib.hid (D4.out.trans (b6.out.mono D4.out.size))
              have E6 : Hid (Below wq.heap.size wq w6) := Lib.hid (HD.out.trans (b6.out.mono HD.out.size))
              obtain ⟨x, hx⟩ : ∃ x, x = C.getD i 0 := ⟨_, rfl⟩
              rw [← hx] at FD
              have KX : Hid (∀ w', Below w4.heap.size w4 w' → w'.cell? ⟨b, off + i, none⟩ = some (.int .i64 (x : Int))) := Lib.hid fun w' hw => by rw [hx]; exact KC.out w' hw i hlt
              have hx16 : x < N := by rw [hx]; exact k1
              have KN : Hid (∀ j, j < i → C.getD j 0 ≠ x) := Lib.hid (by rw [hx]; exact K4.out)
              have K0 : Hid (C.getD 0 0 ≤ x) := Lib.hid (by rw [hx]; exact K3.out)
              clear hx hmr hR K2 K3 K4 AEk o6 b6 hcq x0 x1 HD D4 k1
              obtain ⟨wu, rfl⟩ : ∃ wu, wu = wr := ⟨_, rfl⟩
              go_wp2_with fail
              go_loopw [11, 12] (fun sv iv wr => ∃ j : Nat, j ≤ mr ∧ iv = .int .i64 j ∧ sv = .bool ((R.take j).contains (x : Int)) ∧ Hid (Below w6.heap.size w6 wr)) (fun _ iv _ => mr - (intOf iv).toNat)
              case atStart => exact ⟨0, Nat.zero_le _, rfl, by rw [List.take_zero]; rfl, Lib.hid (Below.refl _ _)⟩
              case round =>
                obtain ⟨j, hj, rfl, rfl, HE⟩ := hrel
                by_cases hlt2 : j < mr
                · have hlt2' : (j : Int) < (mr : Int) := by omega
                  have TK := Lib.hid (take_has (R := R) (i := j) (by rw [← MR.out]; exact hlt2) (x : Int))
                  obtain ⟨b2, off2, z, rfl, hb2, hc2, hz, _, _⟩ := (Z6.out.below HE.out).at_ (k := j) (by rw [← MR.out]; exact hlt2)
                  rw [hz.out] at TK
                  clear hz
                  have hci := KX.out wr (D6.out.trans (HE.out.mono D6.out.size))
                  cases hs : (R.take j).contains (x : Int) with
                  | true =>
                    have E1 : Hid ((R.take (j + 1)).contains (x : Int) = true) := Lib.hid (by rw [TK.out, hs]; rfl)
                    clear hs TK
                    go_wp2_with fail
                    go_quiet (fail)
                    go_wp2
                    go_roundw
                    case rel => exact ⟨j + 1, by omega, by go_num, by rw [E1.out], Lib.hid (below_n HE.out _)⟩
                    case measure => simp [intOf]; omega
                  | false =>
                    have E1 : Hid ((R.take (j + 1)).contains (x : Int) = (z == (x : Int))) := Lib.hid (by rw [TK.out, hs]; rfl)
                    clear hs TK
                    go_wp2_with fail
                    go_quiet (fail)
                    go_wp2
                    go_roundw
                    case rel => exact ⟨j + 1, by omega, by go_num, by rw [E1.out], Lib.hid (below_n HE.out _)⟩
                    case measure => simp [intOf]; omega
                · obtain rfl : mr = j := by omega
                  have FT : Hid ((R.take mr).contains (x : Int) = true) := Lib.hid (by rw [TA.out]; exact FD.out)
                  rw [FT.out]
                  have D7 : Hid (Below w4.heap.size w4 wr) := Lib.hid (D6.out.trans (HE.out.mono D6.out.size))
                  have E7 : Hid (Below wq.heap.size wq wr) := Lib.hid (E6.out.trans (HE.out.mono E6.out.size))
                  clear FT FD TA D6 E6 Z6 MR hlt2 hj HE
                  obtain ⟨wv, rfl⟩ : ∃ wv, wv = wr := ⟨_, rfl⟩
                  go_wp2_with fail
                  go_loopw [11, 13] (fun sv iv wr => ∃ j : Nat, j ≤ i ∧ iv = .int .i64 j ∧ sv = .bool true ∧ Hid (Below wv.heap.size wv wr)) (fun _ iv _ => i - (intOf iv).toNat)
                  case atStart => exact ⟨0, Nat.zero_le _, rfl, rfl, Lib.hid (Below.refl _ _)⟩
                  case round =>
                    obtain ⟨j, hj, rfl, rfl, HE⟩ := hrel
                    have D8 : Hid (Below w4.heap.size w4 wr) := Lib.hid (D7.out.trans (HE.out.mono D7.out.size))
                    have hci := KX.out wr D8.out
                    by_cases hlt2 : j < i
                    · have hlt2' : (j : Int) < (i : Int) := by omega
                      have hjm : (j : Int) < (m : Int) := by omega
                      have hcj := KC.out wr D8.out j (by omega)
                      have hne := KN.out j hlt2
                      have hne' : ((C.getD j 0 : Nat) : Int) ≠ (x : Int) := by omega
                      generalize C.getD j 0 = y at *
                      have hd1 : ((y : Int) == (x : Int)) = false := beq_int_false hne'
                      have hd2 : ((y : Int) != (x : Int)) = true := by simp [bne, hd1]
                      have hd3 : (y == x) = false := by simpa using hne
                      have hd4 : (y != x) = true := by simp [bne, hd3]
                      go_wp2_with fail
                      go_quiet (fail)
                      go_wp2
                      go_roundw
                      case rel => exact ⟨j + 1, by omega, by go_num, rfl, Lib.hid (below_n HE.out _)⟩
                      case measure => simp [intOf]; omega
                    · obtain rfl : i = j := by omega
                      have hc0 := KC.out wr D8.out 0 (by omega)
                      have h0 := K0.out
                      generalize C.getD 0 0 = y at *
                      have hd1 : decide ((x : Int) < (y : Int)) = false := decide_eq_false (by omega)
                      have hd2 : decide (x < y) = false := decide_eq_false (by omega)
                      rw [Nat.add_zero] at hc0
                      go_wp2_with fail
                      go_quiet (fail)
                      go_wp2
                      go_roundw
                      case rel => exact ⟨i + 1, by omega, by go_num, Lib.hid (E7.out.trans (below_n (HE.out.mono E7.out.size) _))⟩
                      case measure => simp [intOf]; omega
            · obtain rfl : m = i := by omega
              go_wp2
              go_ret
              exact ⟨rfl, Lib.hid (B5.out.trans (HD.out.mono B5.out.size))⟩
end Go.Proofs.Ytiapacbbfgihdaa
