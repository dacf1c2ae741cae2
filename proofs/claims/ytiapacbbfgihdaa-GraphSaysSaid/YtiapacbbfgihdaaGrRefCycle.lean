/-
  The reference: Cycle at every graph.
-/
import Derived.Test.YtiapacbbfgihdaaGrRefReach
import Derived.Test.YtiapacbbfgihdaaGrCycle
import Derived.Deep.RegionWith
namespace Go.Proofs.Ytiapacbbfgihdaa
open Go.RowKit
/-- What the reference's loop keeps beside the program's. -/
def Gr.LcSt (F : Int → Int → Option Int) (k : Nat) (b f : Int) : Prop := (Gr.lc F k = (0, 0, false) ∧ b = 0 ∧ f = -1) ∨ (Gr.lc F k = (f, b, true) ∧ 0 ≤ f)
theorem Gr.LcSt.zero (F : Int → Int → Option Int) : Gr.LcSt F 0 0 (-1) := .inl ⟨rfl, rfl, rfl⟩
theorem Gr.LcSt.keep {F : Int → Int → Option Int} {k : Nat} {b f : Int} (h : Gr.LcSt F k b f) (hn : F k k = none) : Gr.LcSt F (k + 1) b f := by
  unfold Gr.LcSt at *
  rw [Gr.lc_none hn]; exact h
theorem Gr.LcSt.first {F : Int → Int → Option Int} {k : Nat} {b f z : Int} (h : Gr.LcSt F k b f) (hz : F k k = some z) (hf : f < 0) : Gr.LcSt F (k + 1) z k := by
  rcases h with ⟨h1, rfl, rfl⟩ | ⟨h1, h2⟩
  · refine .inr ⟨?_, by omega⟩
    rw [Gr.lc_at hz, h1]; rfl
  · omega
theorem Gr.LcSt.less {F : Int → Int → Option Int} {k : Nat} {b f z : Int} (h : Gr.LcSt F k b f) (hz : F k k = some z) (hf : 0 ≤ f) (hb : z < b) : Gr.LcSt F (k + 1) z k := by
  rcases h with ⟨h1, rfl, rfl⟩ | ⟨h1, h2⟩
  · omega
  · refine .inr ⟨?_, by omega⟩
    rw [Gr.lc_at hz, h1]
    simp [hb]
theorem Gr.LcSt.stay {F : Int → Int → Option Int} {k : Nat} {b f z : Int} (h : Gr.LcSt F k b f) (hz : F k k = some z) (hf : 0 ≤ f) (hb : ¬ z < b) : Gr.LcSt F (k + 1) b f := by
  rcases h with ⟨h1, rfl, rfl⟩ | ⟨h1, h2⟩
  · omega
  · refine .inr ⟨?_, h2⟩
    rw [Gr.lc_at hz, h1, if_neg (by simp; omega)]
theorem Gr.steps_none {es : Gr.EI} {N : Nat} (h : Gr.Good N es) (a i : Nat) (hi : i < N) (hz : (Gr.stepsV es N a).getD i 0 ≤ 0) : Gr.fin N es a i = none := by
  rw [Gr.stepsV_get h a i hi] at hz
  have hl := h.low
  rw [Int.toNat_natCast] at hl
  rw [h.fin_dist, Int.toNat_natCast]
  rcases Gr.dist_cases (Gr.nat es) N a i hl with ⟨h1, _⟩ | ⟨k, h1, _, h2, _⟩
  · rw [h1]; rfl
  · omega
theorem Gr.steps_pos {es : Gr.EI} {N : Nat} (h : Gr.Good N es) (a i : Nat) (hi : i < N) (hz : 0 < (Gr.stepsV es N a).getD i 0) : Gr.fin N es a i = some ((Gr.stepsV es N a).getD i 0) := by
  rw [Gr.steps_fin h a i hi, if_neg (by omega)]
theorem Gr.nextP_no {es : Gr.EI} {N : Nat} (h : Gr.Good N es) {x fr r : Int} {c : Nat} {xn : Nat} (hx : x = (xn : Int)) (hh : es.contains (x, (c : Int)) = false) : Gr.nextP N es x fr r c = false := by
  subst hx
  unfold Gr.nextP
  rw [h.fin_one]
  have : (Gr.nat es).contains (xn, c) = es.contains ((xn : Int), (c : Int)) := by
    rw [Bool.eq_iff_iff, List.contains_iff_mem, List.contains_iff_mem, h.mem]
  rw [this, hh, Bool.false_and]
theorem Gr.nextP_yes {es : Gr.EI} {N : Nat} (h : Gr.Good N es) {r : Int} {x fr c : Nat} (hr : 1 ≤ r) (hf : fr < N) (hh : es.contains ((x : Int), (c : Int)) = true) : Gr.nextP N es x fr r c = ((Gr.stepsV es N c).getD fr 0 == r) := by
  unfold Gr.nextP
  rw [h.fin_one]
  have : (Gr.nat es).contains (x, c) = es.contains ((x : Int), (c : Int)) := by
    rw [Bool.eq_iff_iff, List.contains_iff_mem, List.contains_iff_mem, h.mem]
  rw [this, hh, Bool.true_and, Gr.steps_fin h c fr hf]
  split
  · next hx =>
    rw [Bool.eq_iff_iff, beq_iff_eq, beq_iff_eq]
    simp only [Option.getD_none]
    omega
  · rfl
theorem Gr.Sofar.find {N : Nat} {n : Int} {es : Gr.EI} {f k i x : Nat} {Ls : List Int} (hn : n.toNat = N) (h : Gr.Sofar (Gr.nat es) N f k i x Ls) (hi : i < k) (hG : Gr.Good n es) (hm : ∀ j a, 1 ≤ j → j ≤ k → Gr.rk (Gr.nat es) j a a = false) :
    ∃ b : Nat, b < N ∧ Gr.nextP n es x f ((k : Int) + 1 - ((i + 1 : Nat) : Int)) b = true ∧ (∀ c, c < b → Gr.nextP n es x f ((k : Int) + 1 - ((i + 1 : Nat) : Int)) c = false) ∧ Gr.Sofar (Gr.nat es) N f k (i + 1) b (Ls ++ [(b : Int)]) := by
  obtain ⟨b, h1, h2, h3⟩ := h.next hn hi hG hm
  refine ⟨b, h2, ?_, ?_, h3⟩
  all_goals
    subst hn
    obtain ⟨m, hmm⟩ : ∃ m, k = i + m + 1 := ⟨k - i - 1, by omega⟩
    have e1 : k - i = m + 1 := by omega
    have hb := h.back
    rw [e1] at hb
    obtain ⟨b', _, g2, g3, _⟩ := hG.grow_step (m := m) (by omega) hm h.fore hb
    have e3 : (k : Int) + 1 - ((i + 1 : Nat) : Int) = (m : Int) + 1 := by omega
    rw [e3] at h1 ⊢
    rw [g2] at h1
    have h1 : b' = b := by omega
    subst h1
    have g4 := List.find?_range_eq_some.1 g3
  · exact g4.1
  · intro c hc
    simpa using g4.2.2 c hc
set_option maxHeartbeats 8000000 in
theorem refCycle_any (n : Int) (A : Option Addr) (es : Gr.EI) (cap : Nat) (hl : es.length ≤ 100000) (w : World) (h : Edg w w.heap.size A es) :
    Calls Try.prog 20 #[.agg #[.int .i64 n, .slice A es.length cap]] w (ListG w (Gr.cycleI n es)) := by
  have GD : Hid (∀ W, Below w.heap.size w W → Calls Try.prog 19 #[.agg #[.int .i64 n, .slice A es.length cap]] W (BoolG W (Gr.goodV n es))) := Lib.hid fun W hW => refGood_any n A es cap (by omega) W (h.on hW)
  have SP : Hid (∀ W, Below w.heap.size w W → ∀ (N a : Nat), n = (N : Int) → a < N → Gr.Good n es → Calls Try.prog 33 #[.agg #[.int .i64 n, .slice A es.length cap], .int .i64 (a : Int)] W (ListG W (Gr.stepsV es N a))) := Lib.hid fun W hW N a e ha hg => by
    subst e
    exact refSteps_any N A es cap a ha hl hg W (h.on hW)
  have HS : Hid (∀ W (a c : Int), Below w.heap.size w W → Calls Try.prog 32 #[.agg #[.int .i64 n, .slice A es.length cap], .int .i64 a, .int .i64 c] W (BoolG W (es.contains (a, c)))) := Lib.hid fun W a c hW => refHas_any n A es cap a c (by omega) W (h.on hW)
  generalize es.length = l at *
  clear h hl
  obtain ⟨W1, hW1⟩ : ∃ W1, W1 = w.alloc (.cells #[.int .i64 n, .slice A l cap] 38) := ⟨_, rfl⟩
  have P1 : Hid (W1.heap[w.heap.size]? = some (.cells #[.int .i64 n, .slice A l cap] 38 (0, 0))) := Lib.hid (by rw [hW1]; exact heap_alloc_new ..)
  have B1 : Hid (Below w.heap.size w W1) := Lib.hid (by rw [hW1]; exact (Below.refl _ _).alloc (Nat.le_refl _) _)
  obtain ⟨⟨x0, x1⟩, -⟩ := obG P1.out
  cases hg : Gr.goodV n es with
  | false =>
    rw [hg] at GD
    have E : Hid (Gr.cycleI n es = []) := Lib.hid (by unfold Gr.cycleI; rw [hg]; rfl)
    clear hg
    go_enter Try.func20, Try.ntmps20
    go_wp2_with fail
    rw [← hW1]
    clear hW1
    go_wp2_with fail
    (with_reducible refine (GD.out _ B1.out).mono ?_); rintro e w2 ⟨rfl, b2⟩
    go_wp2
    go_ret
    rw [E.out]
    exact ⟨none, 0, rfl, Lib.hid (OwnZ.none_ _ _), Lib.hid (B1.out.trans (b2.out.mono B1.out.size))⟩
  | true =>
    rw [hg] at GD
    have G := Gr.goodV_iff.1 hg
    obtain ⟨N, hN⟩ : ∃ N : Nat, n = (N : Int) := ⟨n.toNat, by have := G.n0; omega⟩
    have hN16 : N ≤ 16 := by have := G.n16; omega
    have E : Hid (Gr.cycleI n es = Gr.ints (Gr.cycleV (Gr.nat es) N)) := Lib.hid (by rw [Gr.cycleI_good G, hN, Int.toNat_natCast])
    have SP2 : Hid (∀ W, Below w.heap.size w W → ∀ a : Nat, a < N → Calls Try.prog 33 #[.agg #[.int .i64 n, .slice A l cap], .int .i64 (a : Int)] W (ListG W (Gr.stepsV es N a))) := Lib.hid fun W hW a ha => SP.out W hW N a hN ha G
    subst hN
    have HG := Lib.hid G
    clear hg G SP
    go_enter Try.func20, Try.ntmps20
    go_wp2_with fail
    rw [← hW1]
    clear hW1
    go_wp2_with fail
    (with_reducible refine (GD.out _ B1.out).mono ?_); rintro e w2 ⟨rfl, b2⟩
    have P2 : Hid (w2.heap[w.heap.size]? = some (.cells #[.int .i64 (N : Int), .slice A l cap] 38 (0, 0))) := Lib.hid ((b2.out.block _ (lt_of_block P1.out)).trans P1.out)
    have B2 : Hid (Below w.heap.size w w2) := Lib.hid (B1.out.trans (b2.out.mono B1.out.size))
    clear b2 x0 x1
    go_wp2_with fail
    go_loopw [3, 4, 5] (fun bv fv iv wr => ∃ (k : Nat) (b f : Int), k ≤ N ∧ iv = .int .i64 k ∧ bv = .int .i64 b ∧ fv = .int .i64 f ∧ Hid (Gr.LcSt (Gr.fin N es) k b f) ∧ Hid (wr.heap[w.heap.size]? = some (.cells #[.int .i64 (N : Int), .slice A l cap] 38 (0, 0))) ∧ Hid (Below w.heap.size w wr)) (fun _ _ iv _ => N - (intOf iv).toNat)
    case atStart => exact ⟨0, 0, -1, Nat.zero_le _, rfl, rfl, rfl, Lib.hid (Gr.LcSt.zero _), P2, B2⟩
    case round =>
      obtain ⟨k, b, f, hk, rfl, rfl, rfl, HL, HP, HB⟩ := hrel
      obtain ⟨⟨x0, x1⟩, -⟩ := obG HP.out
      by_cases hlt : k < N
      · have hlt' : (k : Int) < (N : Int) := by omega
        have SK := Lib.hid (SP2.out wr HB.out k hlt)
        have DL := Lib.hid (Gr.stepsV_len HG.out N k rfl)
        have FN := Lib.hid (Gr.steps_none HG.out k k hlt)
        have FS := Lib.hid (Gr.steps_pos HG.out k k hlt)
        obtain ⟨L, hL⟩ : ∃ L, L = (Gr.stepsV es N k).length := ⟨_, rfl⟩
        have hLN : k < L := by rw [hL, DL.out]; exact hlt
        have HLL := Lib.hid hL
        clear hL
        go_wp2_with fail
        (with_reducible refine SK.out.mono ?_); rintro e w3 ⟨A3, c3, rfl, o3, b3⟩
        rw [← HLL.out]
        obtain ⟨gb, off, z, rfl, hb, hc, hz, z1, z2⟩ := o3.out.zs.at_ (k := k) (by rw [← HLL.out]; exact hLN)
        rw [hz.out] at FN FS
        have P3 : Hid (w3.heap[w.heap.size]? = some (.cells #[.int .i64 (N : Int), .slice A l cap] 38 (0, 0))) := Lib.hid ((b3.out.block _ (lt_of_block HP.out)).trans HP.out)
        have B3 : Hid (Below w.heap.size w w3) := Lib.hid (HB.out.trans (b3.out.mono HB.out.size))
        clear hz o3 b3 SK hb
        by_cases hz0 : 0 < z
        · have F1 := Lib.hid (FS.out hz0)
          clear FN FS
          by_cases hf : f < 0
          · have HL' := Lib.hid (HL.out.first F1.out hf)
            go_wp2
            go_roundw
            case rel => exact ⟨k + 1, z, k, by omega, by go_num, rfl, rfl, HL', P3, B3⟩
            case measure => simp [intOf]; omega
          · have hf' : 0 ≤ f := by omega
            clear hf
            by_cases hzb : z < b
            · have HL' := Lib.hid (HL.out.less F1.out hf' hzb)
              go_wp2
              go_roundw
              case rel => exact ⟨k + 1, z, k, by omega, by go_num, rfl, rfl, HL', P3, B3⟩
              case measure => simp [intOf]; omega
            · have HL' := Lib.hid (HL.out.stay F1.out hf' hzb)
              have hzb' : b ≤ z := by omega
              clear hzb
              go_wp2
              go_roundw
              case rel => exact ⟨k + 1, b, f, by omega, by go_num, rfl, rfl, HL', P3, B3⟩
              case measure => simp [intOf]; omega
        · have hz1 : z ≤ 0 := by omega
          have HL' := Lib.hid (HL.out.keep (FN.out hz1))
          clear FN FS hz0
          go_wp2
          go_roundw
          case rel => exact ⟨k + 1, b, f, by omega, by go_num, rfl, rfl, HL', P3, B3⟩
          case measure => simp [intOf]; omega
      · obtain rfl : N = k := by omega
        clear P1 P2 B1 B2 hk hlt
        obtain ⟨w5, rfl⟩ : ∃ w5, w5 = wr := ⟨_, rfl⟩
        have LN : Hid ((Gr.lc (Gr.fin N es) N).2.2 = false → Gr.cycleI N es = []) := Lib.hid (by
          have h1 := HG.out.lc_none
          rw [Int.toNat_natCast] at h1
          intro hb
          rw [E.out, h1.1 hb]; rfl)
        by_cases hf : f < 0
        · have E2 : Hid (Gr.cycleI N es = []) := Lib.hid (LN.out (by
            rcases HL.out with ⟨h1, _⟩ | ⟨h1, h2⟩
            · rw [h1]
            · omega))
          go_wp2
          go_ret
          rw [E2.out]
          exact ⟨none, 0, rfl, Lib.hid (OwnZ.none_ _ _), HB⟩
        · have hlc : Gr.lc (Gr.fin N es) N = (f, b, true) := by
            rcases HL.out with ⟨_, _, h1⟩ | ⟨h1, _⟩
            · omega
            · exact h1
          obtain ⟨fn, K, hfn, hK, hr, hcyc, hrk, hmin⟩ := HG.out.lc_some (by rw [Int.toNat_natCast, hlc])
          rw [Int.toNat_natCast] at hfn hK hr hcyc
          rw [hlc] at hr
          injection hr with hr1 hr2
          injection hr2 with hr2 _
          subst hr1
          have E2 : Hid (Gr.cycleI N es = Gr.ints (fn :: Gr.grow (Gr.nat es) N fn K fn)) := Lib.hid (by rw [E.out, hcyc])
          have ST : Hid (Gr.Sofar (Gr.nat es) N fn K 0 fn [(fn : Int)]) := Lib.hid (Gr.Sofar.start hrk)
          have MN := Lib.hid hmin
          have HBK := Lib.hid hr2
          have hf' : (0 : Int) ≤ (fn : Int) := by omega
          have O4 : Hid (OwnZ (w5.alloc (.cells #[.int .i64 (fn : Int)] 3)) w5.heap.size (some ⟨w5.heap.size, 0, none⟩) 1 [(fn : Int)]) := Lib.hid (OwnZ.lit [(fn : Int)] (fun z hz => by simp at hz; subst hz; exact ⟨by omega, by omega⟩) (by simp) #[.int .i64 (fn : Int)] rfl)
          clear hlc hrk hmin hcyc hr2 LN E HL hf
          go_wp2_with fail
          obtain ⟨B, hB⟩ : ∃ B, B = w5.heap.size := ⟨_, rfl⟩
          have HBS := Lib.hid hB
          rw [← hB] at O4
          clear x0 x1
          go_loopw [7] (fun lv wq => ∃ (i x m : Nat) (Ls : List Int) (A' : Option Addr) (cap' : Nat), lv = .slice A' m cap' ∧ Hid (m = i + 1) ∧ Hid (Gr.Sofar (Gr.nat es) N fn K i x Ls) ∧ x < N ∧ Hid (OwnZ wq B A' cap' Ls) ∧ Hid (Below B w5 wq)) (fun lv _ => (K + 1) - lenZ lv)
          case atStart => exact ⟨0, fn, 1, _, _, _, by rw [hB], Lib.hid rfl, ST, hfn, O4, Lib.hid (by rw [hB]; exact (Below.refl _ _).alloc (Nat.le_refl _) _)⟩
          case round =>
            clear O4 ST hB
            obtain ⟨i, x, m, Ls, A', cap', rfl, HM, HS2, hx, HO, HB2⟩ := hrel
            obtain ⟨wq, rfl⟩ : ∃ wq, wq = wr := ⟨_, rfl⟩
            have hik := HS2.out.le
            by_cases hlt : i < K
            · have hlt' : (m : Int) < b := by have := HM.out; have := HBK.out; omega
              obtain ⟨gl, hA, hgl1, hgl2⟩ := HO.out.shape (by rw [HS2.out.len]; omega)
              subst hA
              obtain ⟨bst, hbst, hyes, hno, hnext⟩ := HS2.out.find (by rw [Int.toNat_natCast]) hlt HG.out MN.out
              have HNX := Lib.hid hnext
              have hw1 : IntKind.i64.wrap ((m : Int) - 1) = (i : Int) := by have := HM.out; rw [IntWalk.i64_in _ (by omega)]; omega
              obtain ⟨r, hr⟩ : ∃ r : Int, r = b - (m : Int) := ⟨_, rfl⟩
              have hw2 : IntKind.i64.wrap (b - (m : Int)) = r := by have := HM.out; have := HBK.out; rw [IntWalk.i64_in _ (by omega), hr]
              have er : (K : Int) + 1 - ((i + 1 : Nat) : Int) = r := by rw [hr, HBK.out, HM.out]
              rw [er] at hyes hno
              have YES := Lib.hid hyes
              have NO := Lib.hid hno
              have R1 : Hid (1 ≤ r) := Lib.hid (by rw [hr]; omega)
              have hmi : i < m := by have := HM.out; omega
              have LEN : Hid (m = Ls.length) := Lib.hid (by rw [HM.out, HS2.out.len])
              have LAST := Lib.hid HS2.out.last
              have SLEN := Lib.hid HS2.out.len
              have SIZ : Hid (w.heap.size < B) := Lib.hid (by rw [HBS.out]; exact lt_of_block HP.out)
              clear hr er hyes hno hnext hgl1 hgl2
              go_wp2_with fail
              go_loopw [7, 8] (fun lv cv wk => ∃ c : Nat, c ≤ bst ∧ cv = .int .i64 c ∧ lv = .slice (some ⟨gl, 0, none⟩) m cap' ∧ Hid (OwnZ wk B (some ⟨gl, 0, none⟩) cap' Ls) ∧ Hid (Below B w5 wk)) (fun _ cv _ => N - (intOf cv).toNat)
              case atStart => exact ⟨0, Nat.zero_le _, rfl, rfl, HO, HB2⟩
              case round =>
                clear HO HB2
                obtain ⟨c, hc, rfl, rfl, HO, HB2⟩ := hrel
                obtain ⟨wk, rfl⟩ : ∃ wk, wk = wr := ⟨_, rfl⟩
                have PR : Hid (wk.heap[w.heap.size]? = some (.cells #[.int .i64 (N : Int), .slice A l cap] 38 (0, 0))) := Lib.hid ((HB2.out.block _ SIZ.out).trans HP.out)
                obtain ⟨⟨x0, x1⟩, -⟩ := obG PR.out
                have hcN : c < N := by omega
                have hcN' : (c : Int) < (N : Int) := by omega
                have BW : Hid (Below w.heap.size w wk) := Lib.hid (HB.out.trans (HB2.out.mono (Nat.le_of_lt SIZ.out)))
                have hv := HO.out.val (i := i) (by rw [SLEN.out]; omega)
                rw [LAST.out] at hv
                have S0 : Hid (wk.drew.cell? ⟨w.heap.size, 0, none⟩ = some (.int .i64 (N : Int)) ∧ wk.drew.cell? ⟨w.heap.size, 1, none⟩ = some (.slice A l cap) ∧ wk.drew.cell? ⟨gl, i, none⟩ = some (.int .i64 (x : Int))) := Lib.hid ⟨x0, x1, hv⟩
                have SN : Hid (∀ W, Below wk.drew.heap.size wk.drew W → (W.cell? ⟨w.heap.size, 0, none⟩ = some (.int .i64 (N : Int)) ∧ W.cell? ⟨w.heap.size, 1, none⟩ = some (.slice A l cap) ∧ W.cell? ⟨gl, i, none⟩ = some (.int .i64 (x : Int)))) := Lib.hid fun W hW => by
                  have h1 := lt_of_block PR.out
                  obtain ⟨_, e, _, h2⟩ := HO.out.shape (by rw [SLEN.out]; omega)
                  injection e with e
                  injection e with e
                  subst e
                  exact ⟨(hW.cell (p := ⟨w.heap.size, 0, none⟩) h1).trans S0.out.1, (hW.cell (p := ⟨w.heap.size, 1, none⟩) h1).trans S0.out.2.1, (hW.cell (p := ⟨gl, i, none⟩) h2).trans S0.out.2.2⟩
                have BS : Hid (B ≤ wk.heap.size) := Lib.hid (by rw [HBS.out]; exact HB2.out.size)
                clear hv
                cases hh : es.contains ((x : Int), (c : Int)) with
                | false =>
                  have hne : c ≠ bst := fun e => by
                    have := YES.out
                    rw [← e, Gr.nextP_no HG.out rfl hh] at this; cases this
                  have HC : Hid (∀ W, Below w.heap.size w W → Calls Try.prog 32 #[.agg #[.int .i64 (N : Int), .slice A l cap], .int .i64 (x : Int), .int .i64 (c : Int)] W (BoolG W false)) := Lib.hid fun W hW => by have := HS.out W x c hW; rwa [hh] at this
                  clear hh
                  go_wp2_with fail
                  refine wp_region_held_drew (S := fun w' => w'.cell? ⟨w.heap.size, 0, none⟩ = some (.int .i64 (N : Int)) ∧ w'.cell? ⟨w.heap.size, 1, none⟩ = some (.slice A l cap) ∧ w'.cell? ⟨gl, i, none⟩ = some (.int .i64 (x : Int))) (by kernel_rfl) ?hS0 (fun hHeld => ?_)
                  case hS0 => exact S0.out
                  refine wpAnyH_take (i := 0) (oi := ?o1) (v := ?v1) ?hi1 (by kernel_rfl) (by kernel_rfl) (by kernel_rfl) ?hQ1 (Or.inl ⟨?hg1, ?hy1⟩) (by assumption) ?rest1
                  case hi1 => (simp only [List.getElem?_toArray, List.getElem?_cons_zero]; exact rfl)
                  case hQ1 => exact fun _ _ _ h => h
                  case hg1 => rfl
                  case hy1 => (intro w' hSw; (try dsimp only at hSw); go_simp; try with_reducible rfl)
                  try simp only [Act.put, List.setIfInBounds_toArray, List.set_cons_zero, List.set_cons_succ]
                  refine wpAnyH_take (i := 1) (oi := ?o2) (v := ?v2) ?hi2 (by kernel_rfl) (by kernel_rfl) (by kernel_rfl) ?hQ2 (Or.inl ⟨?hg2, ?hy2⟩) (by assumption) ?rest2
                  case hi2 => (simp only [List.getElem?_toArray, List.getElem?_cons_zero, List.getElem?_cons_succ]; exact rfl)
                  case hQ2 => exact fun _ _ _ h => h
                  case hg2 => rfl
                  case hy2 => (intro w' hSw; (try dsimp only at hSw); go_simp; try with_reducible rfl)
                  try simp only [Act.put, List.setIfInBounds_toArray, List.set_cons_zero, List.set_cons_succ]
                  refine wpAnyH_take (i := 2) (oi := ?o3) (v := ?v3) ?hi3 (by kernel_rfl) (by kernel_rfl) (by kernel_rfl) ?hQ3 (Or.inl ⟨?hg3, ?hy3⟩) (by assumption) ?rest3
                  case hi3 => (simp only [List.getElem?_toArray, List.getElem?_cons_zero, List.getElem?_cons_succ]; exact rfl)
                  case hQ3 => exact fun _ _ _ h => h
                  case hg3 => rfl
                  case hy3 => (intro w' hSw; (try dsimp only at hSw); go_simp; try with_reducible rfl)
                  try simp only [Act.put, List.setIfInBounds_toArray, List.set_cons_zero, List.set_cons_succ]
                  refine wpAnyH_take (i := 3) (oi := ?o4) (v := ?v4) ?hi4 (by kernel_rfl) (by kernel_rfl) (by kernel_rfl) ?hQ4 (Or.inl ⟨?hg4, ?hy4⟩) (by assumption) ?rest4
                  case hi4 => (simp only [List.getElem?_toArray, List.getElem?_cons_zero, List.getElem?_cons_succ]; exact rfl)
                  case hQ4 => exact fun _ _ _ h => h
                  case hg4 => rfl
                  case hy4 => (intro w' hSw; (try dsimp only at hSw); go_simp; try with_reducible rfl)
                  try simp only [Act.put, List.setIfInBounds_toArray, List.set_cons_zero, List.set_cons_succ]
                  refine wpAnyH_take (i := 4) (oi := ?o5) (v := ?v5) ?hi5 (by kernel_rfl) (by kernel_rfl) (by kernel_rfl) ?hQ5 (Or.inl ⟨?hg5, ?hy5⟩) (by assumption) ?rest5
                  case hi5 => (simp only [List.getElem?_toArray, List.getElem?_cons_zero, List.getElem?_cons_succ]; exact rfl)
                  case hQ5 => exact fun _ _ _ h => h
                  case hg5 => rfl
                  case hy5 => (intro w' hSw; (try dsimp only at hSw); go_simp; try with_reducible rfl)
                  try simp only [Act.put, List.setIfInBounds_toArray, List.set_cons_zero, List.set_cons_succ]
                  refine wpAnyH_take (i := 5) (oi := ?o6) (v := ?v6) ?hi6 (by kernel_rfl) (by kernel_rfl) (by kernel_rfl) ?hQ6 (Or.inl ⟨?hg6, ?hy6⟩) (by assumption) ?rest6
                  case hi6 => (simp only [List.getElem?_toArray, List.getElem?_cons_zero, List.getElem?_cons_succ]; exact rfl)
                  case hQ6 => exact fun _ _ _ h => h
                  case hg6 => rfl
                  case hy6 => (intro w' hSw; (try dsimp only at hSw); go_simp; try with_reducible rfl)
                  try simp only [Act.put, List.setIfInBounds_toArray, List.set_cons_zero, List.set_cons_succ]
                  refine wpAnyH_take (i := 6) (oi := ?o7) (v := ?v7) ?hi7 (by kernel_rfl) (by kernel_rfl) (by kernel_rfl) ?hQ7 (Or.inl ⟨?hg7, ?hy7⟩) (by assumption) ?rest7
                  case hi7 => (simp only [List.getElem?_toArray, List.getElem?_cons_zero, List.getElem?_cons_succ]; exact rfl)
                  case hQ7 => exact fun _ _ _ h => h
                  case hg7 => rfl
                  case hy7 => (intro w' hSw; (try dsimp only at hSw); go_simp; try with_reducible rfl)
                  try simp only [Act.put, List.setIfInBounds_toArray, List.set_cons_zero, List.set_cons_succ]
                  refine wpAnyH_take (i := 7) (oi := ?o8) (v := ?v8) ?hi8 (by kernel_rfl) (by kernel_rfl) (by kernel_rfl) ?hQ8 (Or.inl ⟨?hg8, ?hy8⟩) (by assumption) ?rest8
                  case hi8 => (simp only [List.getElem?_toArray, List.getElem?_cons_zero, List.getElem?_cons_succ]; exact rfl)
                  case hQ8 => exact fun _ _ _ h => h
                  case hg8 => rfl
                  case hy8 => (intro w' hSw; (try dsimp only at hSw); go_simp; try with_reducible rfl)
                  try simp only [Act.put, List.setIfInBounds_toArray, List.set_cons_zero, List.set_cons_succ]
                  refine wpAnyH_ready (rs := [8]) (by kernel_rfl) (by simp) ?_
                  refine AllReadyH.cons (o := ?o9) ?hi9 (fun K hK => ?_) AllReadyH.nil
                  case hi9 => (simp only [List.getElem?_toArray, List.getElem?_cons_zero, List.getElem?_cons_succ]; exact rfl)
                  (go_simp; go_at_call 32; (with_reducible refine (HC.out _ BW.out.drew).mono ?_); rintro e w6 ⟨rfl, b6⟩; try dsimp only)
                  refine hK.out _ _ ?_ (fun hHeld => ?_)
                  · exact SN.out _ b6.out
                  clear hK K
                  try simp only [Act.put, List.setIfInBounds_toArray, List.set_cons_zero, List.set_cons_succ]
                  refine wpAnyH_take (i := 9) (oi := ?o10) (v := ?v10) ?hi10 (by kernel_rfl) (by kernel_rfl) (by kernel_rfl) ?hQ10 (Or.inl ⟨?hg10, ?hy10⟩) (by assumption) ?rest10
                  case hi10 => (simp only [List.getElem?_toArray, List.getElem?_cons_zero, List.getElem?_cons_succ]; exact rfl)
                  case hQ10 => exact fun _ _ _ h => h
                  case hg10 => rfl
                  case hy10 => (intro w' hSw; (try dsimp only at hSw); go_simp; try with_reducible rfl)
                  try simp only [Act.put, List.setIfInBounds_toArray, List.set_cons_zero, List.set_cons_succ]
                  refine wpAnyH_take (i := 10) (oi := ?o11) (v := undef) ?hi11 (by kernel_rfl) (by kernel_rfl) (by kernel_rfl) ?hQ11 (Or.inr ⟨?hg11, rfl⟩) (by assumption) ?rest11
                  case hi11 => (simp only [List.getElem?_toArray, List.getElem?_cons_zero, List.getElem?_cons_succ]; exact rfl)
                  case hQ11 => exact fun _ _ _ h => h
                  case hg11 => rfl
                  try simp only [Act.put, List.setIfInBounds_toArray, List.set_cons_zero, List.set_cons_succ]
                  refine wpAnyH_take (i := 11) (oi := ?o12) (v := undef) ?hi12 (by kernel_rfl) (by kernel_rfl) (by kernel_rfl) ?hQ12 (Or.inr ⟨?hg12, rfl⟩) (by assumption) ?rest12
                  case hi12 => (simp only [List.getElem?_toArray, List.getElem?_cons_zero, List.getElem?_cons_succ]; exact rfl)
                  case hQ12 => exact fun _ _ _ h => h
                  case hg12 => rfl
                  try simp only [Act.put, List.setIfInBounds_toArray, List.set_cons_zero, List.set_cons_succ]
                  refine wpAnyH_take (i := 12) (oi := ?o13) (v := undef) ?hi13 (by kernel_rfl) (by kernel_rfl) (by kernel_rfl) ?hQ13 (Or.inr ⟨?hg13, rfl⟩) (by assumption) ?rest13
                  case hi13 => (simp only [List.getElem?_toArray, List.getElem?_cons_zero, List.getElem?_cons_succ]; exact rfl)
                  case hQ13 => exact fun _ _ _ h => h
                  case hg13 => rfl
                  try simp only [Act.put, List.setIfInBounds_toArray, List.set_cons_zero, List.set_cons_succ]
                  refine wpAnyH_take (i := 13) (oi := ?o14) (v := undef) ?hi14 (by kernel_rfl) (by kernel_rfl) (by kernel_rfl) ?hQ14 (Or.inr ⟨?hg14, rfl⟩) (by assumption) ?rest14
                  case hi14 => (simp only [List.getElem?_toArray, List.getElem?_cons_zero, List.getElem?_cons_succ]; exact rfl)
                  case hQ14 => exact fun _ _ _ h => h
                  case hg14 => rfl
                  try simp only [Act.put, List.setIfInBounds_toArray, List.set_cons_zero, List.set_cons_succ]
                  refine wpAnyH_take (i := 14) (oi := ?o15) (v := undef) ?hi15 (by kernel_rfl) (by kernel_rfl) (by kernel_rfl) ?hQ15 (Or.inr ⟨?hg15, rfl⟩) (by assumption) ?rest15
                  case hi15 => (simp only [List.getElem?_toArray, List.getElem?_cons_zero, List.getElem?_cons_succ]; exact rfl)
                  case hQ15 => exact fun _ _ _ h => h
                  case hg15 => rfl
                  try simp only [Act.put, List.setIfInBounds_toArray, List.set_cons_zero, List.set_cons_succ]
                  refine wpAnyH_take (i := 15) (oi := ?o16) (v := undef) ?hi16 (by kernel_rfl) (by kernel_rfl) (by kernel_rfl) ?hQ16 (Or.inr ⟨?hg16, rfl⟩) (by assumption) ?rest16
                  case hi16 => (simp only [List.getElem?_toArray, List.getElem?_cons_zero, List.getElem?_cons_succ]; exact rfl)
                  case hQ16 => exact fun _ _ _ h => h
                  case hg16 => rfl
                  try simp only [Act.put, List.setIfInBounds_toArray, List.set_cons_zero, List.set_cons_succ]
                  refine wpAnyH_take (i := 16) (oi := ?o17) (v := undef) ?hi17 (by kernel_rfl) (by kernel_rfl) (by kernel_rfl) ?hQ17 (Or.inr ⟨?hg17, rfl⟩) (by assumption) ?rest17
                  case hi17 => (simp only [List.getElem?_toArray, List.getElem?_cons_zero, List.getElem?_cons_succ]; exact rfl)
                  case hQ17 => exact fun _ _ _ h => h
                  case hg17 => rfl
                  try simp only [Act.put, List.setIfInBounds_toArray, List.set_cons_zero, List.set_cons_succ]
                  refine wpAnyH_take (i := 17) (oi := ?o18) (v := undef) ?hi18 (by kernel_rfl) (by kernel_rfl) (by kernel_rfl) ?hQ18 (Or.inr ⟨?hg18, rfl⟩) (by assumption) ?rest18
                  case hi18 => (simp only [List.getElem?_toArray, List.getElem?_cons_zero, List.getElem?_cons_succ]; exact rfl)
                  case hQ18 => exact fun _ _ _ h => h
                  case hg18 => rfl
                  try simp only [Act.put, List.setIfInBounds_toArray, List.set_cons_zero, List.set_cons_succ]
                  refine wpAnyH_take (i := 18) (oi := ?o19) (v := undef) ?hi19 (by kernel_rfl) (by kernel_rfl) (by kernel_rfl) ?hQ19 (Or.inr ⟨?hg19, rfl⟩) (by assumption) ?rest19
                  case hi19 => (simp only [List.getElem?_toArray, List.getElem?_cons_zero, List.getElem?_cons_succ]; exact rfl)
                  case hQ19 => exact fun _ _ _ h => h
                  case hg19 => rfl
                  try simp only [Act.put, List.setIfInBounds_toArray, List.set_cons_zero, List.set_cons_succ]
                  refine wpAnyH_take (i := 19) (oi := ?o20) (v := undef) ?hi20 (by kernel_rfl) (by kernel_rfl) (by kernel_rfl) ?hQ20 (Or.inr ⟨?hg20, rfl⟩) (by assumption) ?rest20
                  case hi20 => (simp only [List.getElem?_toArray, List.getElem?_cons_zero, List.getElem?_cons_succ]; exact rfl)
                  case hQ20 => exact fun _ _ _ h => h
                  case hg20 => rfl
                  try simp only [Act.put, List.setIfInBounds_toArray, List.set_cons_zero, List.set_cons_succ]
                  refine wpAnyH_take (i := 20) (oi := ?o21) (v := undef) ?hi21 (by kernel_rfl) (by kernel_rfl) (by kernel_rfl) ?hQ21 (Or.inr ⟨?hg21, rfl⟩) (by assumption) ?rest21
                  case hi21 => (simp only [List.getElem?_toArray, List.getElem?_cons_zero, List.getElem?_cons_succ]; exact rfl)
                  case hQ21 => exact fun _ _ _ h => h
                  case hg21 => rfl
                  try simp only [Act.put, List.setIfInBounds_toArray, List.set_cons_zero, List.set_cons_succ]
                  refine wpAnyH_take (i := 21) (oi := ?o22) (v := ?v22) ?hi22 (by kernel_rfl) (by kernel_rfl) (by kernel_rfl) ?hQ22 (Or.inl ⟨?hg22, ?hy22⟩) (by assumption) ?rest22
                  case hi22 => (simp only [List.getElem?_toArray, List.getElem?_cons_zero, List.getElem?_cons_succ]; exact rfl)
                  case hQ22 => exact fun _ _ _ h => h
                  case hg22 => rfl
                  case hy22 => (intro w' hSw; (try dsimp only at hSw); go_simp; try with_reducible rfl)
                  try simp only [Act.put, List.setIfInBounds_toArray, List.set_cons_zero, List.set_cons_succ]
                  refine wpAnyH_done (by kernel_rfl) ?_ _
                  have D6 : Hid (Below B w5 w6) := Lib.hid (HB2.out.drew.trans (b6.out.mono BS.out))
                  have O6 : Hid (OwnZ w6 B (some ⟨gl, 0, none⟩) cap' Ls) := Lib.hid (OwnZ.grew (w := wk.drew) HO.out b6.out (Nat.le_refl _))
                  clear b6
                  go_wp2
                  go_roundw
                  case rel => exact ⟨c + 1, by omega, by go_num, rfl, O6, D6⟩
                  case measure => simp [intOf]; omega
                | true =>
                  have HC : Hid (∀ W, Below w.heap.size w W → Calls Try.prog 32 #[.agg #[.int .i64 (N : Int), .slice A l cap], .int .i64 (x : Int), .int .i64 (c : Int)] W (BoolG W true)) := Lib.hid fun W hW => by have := HS.out W x c hW; rwa [hh] at this
                  have SL := Lib.hid (Gr.stepsV_len HG.out N c rfl)
                  have NP := Lib.hid (Gr.nextP_yes HG.out (c := c) R1.out hfn hh)
                  obtain ⟨z, hz⟩ : ∃ z, z = (Gr.stepsV es N c).getD fn 0 := ⟨_, rfl⟩
                  have ZV : Hid ((Gr.stepsV es N c).getD fn 0 = z) := Lib.hid hz.symm
                  rw [← hz] at NP
                  have hfnN : (fn : Int) < (N : Int) := by omega
                  clear hh hz
                  by_cases hzr : z = r
                  · have heq : c = bst := by
                      rcases Nat.lt_or_ge c bst with h1 | h1
                      · have := NO.out c h1
                        rw [NP.out, hzr] at this; simp at this
                      · omega
                    have hd : (z == r) = true := by simpa using hzr
                    subst heq
                    have IC : Hid (inI (c : Int)) := Lib.hid ⟨by omega, by omega⟩
                    clear hzr
                    go_wp2_with fail
                    refine wp_region_held_drew (S := fun w' => w'.cell? ⟨w.heap.size, 0, none⟩ = some (.int .i64 (N : Int)) ∧ w'.cell? ⟨w.heap.size, 1, none⟩ = some (.slice A l cap) ∧ w'.cell? ⟨gl, i, none⟩ = some (.int .i64 (x : Int))) (by kernel_rfl) ?hS0 (fun hHeld => ?_)
                    case hS0 => exact S0.out
                    refine wpAnyH_take (i := 0) (oi := ?o23) (v := ?v23) ?hi23 (by kernel_rfl) (by kernel_rfl) (by kernel_rfl) ?hQ23 (Or.inl ⟨?hg23, ?hy23⟩) (by assumption) ?rest23
                    case hi23 => (simp only [List.getElem?_toArray, List.getElem?_cons_zero]; exact rfl)
                    case hQ23 => exact fun _ _ _ h => h
                    case hg23 => rfl
                    case hy23 => (intro w' hSw; (try dsimp only at hSw); go_simp; try with_reducible rfl)
                    try simp only [Act.put, List.setIfInBounds_toArray, List.set_cons_zero, List.set_cons_succ]
                    refine wpAnyH_take (i := 1) (oi := ?o24) (v := ?v24) ?hi24 (by kernel_rfl) (by kernel_rfl) (by kernel_rfl) ?hQ24 (Or.inl ⟨?hg24, ?hy24⟩) (by assumption) ?rest24
                    case hi24 => (simp only [List.getElem?_toArray, List.getElem?_cons_zero, List.getElem?_cons_succ]; exact rfl)
                    case hQ24 => exact fun _ _ _ h => h
                    case hg24 => rfl
                    case hy24 => (intro w' hSw; (try dsimp only at hSw); go_simp; try with_reducible rfl)
                    try simp only [Act.put, List.setIfInBounds_toArray, List.set_cons_zero, List.set_cons_succ]
                    refine wpAnyH_take (i := 2) (oi := ?o25) (v := ?v25) ?hi25 (by kernel_rfl) (by kernel_rfl) (by kernel_rfl) ?hQ25 (Or.inl ⟨?hg25, ?hy25⟩) (by assumption) ?rest25
                    case hi25 => (simp only [List.getElem?_toArray, List.getElem?_cons_zero, List.getElem?_cons_succ]; exact rfl)
                    case hQ25 => exact fun _ _ _ h => h
                    case hg25 => rfl
                    case hy25 => (intro w' hSw; (try dsimp only at hSw); go_simp; try with_reducible rfl)
                    try simp only [Act.put, List.setIfInBounds_toArray, List.set_cons_zero, List.set_cons_succ]
                    refine wpAnyH_take (i := 3) (oi := ?o26) (v := ?v26) ?hi26 (by kernel_rfl) (by kernel_rfl) (by kernel_rfl) ?hQ26 (Or.inl ⟨?hg26, ?hy26⟩) (by assumption) ?rest26
                    case hi26 => (simp only [List.getElem?_toArray, List.getElem?_cons_zero, List.getElem?_cons_succ]; exact rfl)
                    case hQ26 => exact fun _ _ _ h => h
                    case hg26 => rfl
                    case hy26 => (intro w' hSw; (try dsimp only at hSw); go_simp; try with_reducible rfl)
                    try simp only [Act.put, List.setIfInBounds_toArray, List.set_cons_zero, List.set_cons_succ]
                    refine wpAnyH_take (i := 4) (oi := ?o27) (v := ?v27) ?hi27 (by kernel_rfl) (by kernel_rfl) (by kernel_rfl) ?hQ27 (Or.inl ⟨?hg27, ?hy27⟩) (by assumption) ?rest27
                    case hi27 => (simp only [List.getElem?_toArray, List.getElem?_cons_zero, List.getElem?_cons_succ]; exact rfl)
                    case hQ27 => exact fun _ _ _ h => h
                    case hg27 => rfl
                    case hy27 => (intro w' hSw; (try dsimp only at hSw); go_simp; try with_reducible rfl)
                    try simp only [Act.put, List.setIfInBounds_toArray, List.set_cons_zero, List.set_cons_succ]
                    refine wpAnyH_take (i := 5) (oi := ?o28) (v := ?v28) ?hi28 (by kernel_rfl) (by kernel_rfl) (by kernel_rfl) ?hQ28 (Or.inl ⟨?hg28, ?hy28⟩) (by assumption) ?rest28
                    case hi28 => (simp only [List.getElem?_toArray, List.getElem?_cons_zero, List.getElem?_cons_succ]; exact rfl)
                    case hQ28 => exact fun _ _ _ h => h
                    case hg28 => rfl
                    case hy28 => (intro w' hSw; (try dsimp only at hSw); go_simp; try with_reducible rfl)
                    try simp only [Act.put, List.setIfInBounds_toArray, List.set_cons_zero, List.set_cons_succ]
                    refine wpAnyH_take (i := 6) (oi := ?o29) (v := ?v29) ?hi29 (by kernel_rfl) (by kernel_rfl) (by kernel_rfl) ?hQ29 (Or.inl ⟨?hg29, ?hy29⟩) (by assumption) ?rest29
                    case hi29 => (simp only [List.getElem?_toArray, List.getElem?_cons_zero, List.getElem?_cons_succ]; exact rfl)
                    case hQ29 => exact fun _ _ _ h => h
                    case hg29 => rfl
                    case hy29 => (intro w' hSw; (try dsimp only at hSw); go_simp; try with_reducible rfl)
                    try simp only [Act.put, List.setIfInBounds_toArray, List.set_cons_zero, List.set_cons_succ]
                    refine wpAnyH_take (i := 7) (oi := ?o30) (v := ?v30) ?hi30 (by kernel_rfl) (by kernel_rfl) (by kernel_rfl) ?hQ30 (Or.inl ⟨?hg30, ?hy30⟩) (by assumption) ?rest30
                    case hi30 => (simp only [List.getElem?_toArray, List.getElem?_cons_zero, List.getElem?_cons_succ]; exact rfl)
                    case hQ30 => exact fun _ _ _ h => h
                    case hg30 => rfl
                    case hy30 => (intro w' hSw; (try dsimp only at hSw); go_simp; try with_reducible rfl)
                    try simp only [Act.put, List.setIfInBounds_toArray, List.set_cons_zero, List.set_cons_succ]
                    refine wpAnyH_ready (rs := [8]) (by kernel_rfl) (by simp) ?_
                    refine AllReadyH.cons (o := ?o31) ?hi31 (fun K hK => ?_) AllReadyH.nil
                    case hi31 => (simp only [List.getElem?_toArray, List.getElem?_cons_zero, List.getElem?_cons_succ]; exact rfl)
                    (go_simp; go_at_call 32; (with_reducible refine (HC.out _ BW.out.drew).mono ?_); rintro e w6 ⟨rfl, b6⟩; try dsimp only)
                    refine hK.out _ _ ?_ (fun hHeld => ?_)
                    · exact SN.out _ b6.out
                    clear hK K
                    try simp only [Act.put, List.setIfInBounds_toArray, List.set_cons_zero, List.set_cons_succ]
                    have B6 : Hid (Below w.heap.size w w6) := Lib.hid (BW.out.drew.trans (b6.out.mono BW.out.size))
                    refine wpAnyH_take (i := 9) (oi := ?o32) (v := ?v32) ?hi32 (by kernel_rfl) (by kernel_rfl) (by kernel_rfl) ?hQ32 (Or.inl ⟨?hg32, ?hy32⟩) (by assumption) ?rest32
                    case hi32 => (simp only [List.getElem?_toArray, List.getElem?_cons_zero, List.getElem?_cons_succ]; exact rfl)
                    case hQ32 => exact fun _ _ _ h => h
                    case hg32 => rfl
                    case hy32 => (intro w' hSw; (try dsimp only at hSw); go_simp; try with_reducible rfl)
                    try simp only [Act.put, List.setIfInBounds_toArray, List.set_cons_zero, List.set_cons_succ]
                    refine wpAnyH_take (i := 10) (oi := ?o33) (v := ?v33) ?hi33 (by kernel_rfl) (by kernel_rfl) (by kernel_rfl) ?hQ33 (Or.inl ⟨?hg33, ?hy33⟩) (by assumption) ?rest33
                    case hi33 => (simp only [List.getElem?_toArray, List.getElem?_cons_zero, List.getElem?_cons_succ]; exact rfl)
                    case hQ33 => exact fun _ _ _ h => h
                    case hg33 => rfl
                    case hy33 => (intro w' hSw; (try dsimp only at hSw); go_simp; try with_reducible rfl)
                    try simp only [Act.put, List.setIfInBounds_toArray, List.set_cons_zero, List.set_cons_succ]
                    refine wpAnyH_take (i := 11) (oi := ?o34) (v := ?v34) ?hi34 (by kernel_rfl) (by kernel_rfl) (by kernel_rfl) ?hQ34 (Or.inl ⟨?hg34, ?hy34⟩) (by assumption) ?rest34
                    case hi34 => (simp only [List.getElem?_toArray, List.getElem?_cons_zero, List.getElem?_cons_succ]; exact rfl)
                    case hQ34 => exact fun _ _ _ h => h
                    case hg34 => rfl
                    case hy34 => (intro w' hSw; (try dsimp only at hSw); go_simp; try with_reducible rfl)
                    try simp only [Act.put, List.setIfInBounds_toArray, List.set_cons_zero, List.set_cons_succ]
                    refine wpAnyH_take (i := 13) (oi := ?o35) (v := ?v35) ?hi35 (by kernel_rfl) (by kernel_rfl) (by kernel_rfl) ?hQ35 (Or.inl ⟨?hg35, ?hy35⟩) (by assumption) ?rest35
                    case hi35 => (simp only [List.getElem?_toArray, List.getElem?_cons_zero, List.getElem?_cons_succ]; exact rfl)
                    case hQ35 => exact fun _ _ _ h => h
                    case hg35 => rfl
                    case hy35 => (intro w' hSw; (try dsimp only at hSw); go_simp; try with_reducible rfl)
                    try simp only [Act.put, List.setIfInBounds_toArray, List.set_cons_zero, List.set_cons_succ]
                    refine wpAnyH_take (i := 16) (oi := ?o36) (v := ?v36) ?hi36 (by kernel_rfl) (by kernel_rfl) (by kernel_rfl) ?hQ36 (Or.inl ⟨?hg36, ?hy36⟩) (by assumption) ?rest36
                    case hi36 => (simp only [List.getElem?_toArray, List.getElem?_cons_zero, List.getElem?_cons_succ]; exact rfl)
                    case hQ36 => exact fun _ _ _ h => h
                    case hg36 => rfl
                    case hy36 => (intro w' hSw; (try dsimp only at hSw); go_simp; try with_reducible rfl)
                    try simp only [Act.put, List.setIfInBounds_toArray, List.set_cons_zero, List.set_cons_succ]
                    refine wpAnyH_take (i := 17) (oi := ?o37) (v := ?v37) ?hi37 (by kernel_rfl) (by kernel_rfl) (by kernel_rfl) ?hQ37 (Or.inl ⟨?hg37, ?hy37⟩) (by assumption) ?rest37
                    case hi37 => (simp only [List.getElem?_toArray, List.getElem?_cons_zero, List.getElem?_cons_succ]; exact rfl)
                    case hQ37 => exact fun _ _ _ h => h
                    case hg37 => rfl
                    case hy37 => (intro w' hSw; (try dsimp only at hSw); go_simp; try with_reducible rfl)
                    try simp only [Act.put, List.setIfInBounds_toArray, List.set_cons_zero, List.set_cons_succ]
                    refine wpAnyH_take (i := 18) (oi := ?o38) (v := ?v38) ?hi38 (by kernel_rfl) (by kernel_rfl) (by kernel_rfl) ?hQ38 (Or.inl ⟨?hg38, ?hy38⟩) (by assumption) ?rest38
                    case hi38 => (simp only [List.getElem?_toArray, List.getElem?_cons_zero, List.getElem?_cons_succ]; exact rfl)
                    case hQ38 => exact fun _ _ _ h => h
                    case hg38 => rfl
                    case hy38 => (intro w' hSw; (try dsimp only at hSw); go_simp; try with_reducible rfl)
                    try simp only [Act.put, List.setIfInBounds_toArray, List.set_cons_zero, List.set_cons_succ]
                    refine wpAnyH_take (i := 19) (oi := ?o39) (v := ?v39) ?hi39 (by kernel_rfl) (by kernel_rfl) (by kernel_rfl) ?hQ39 (Or.inl ⟨?hg39, ?hy39⟩) (by assumption) ?rest39
                    case hi39 => (simp only [List.getElem?_toArray, List.getElem?_cons_zero, List.getElem?_cons_succ]; exact rfl)
                    case hQ39 => exact fun _ _ _ h => h
                    case hg39 => rfl
                    case hy39 => (intro w' hSw; (try dsimp only at hSw); go_simp; try with_reducible rfl)
                    try simp only [Act.put, List.setIfInBounds_toArray, List.set_cons_zero, List.set_cons_succ]
                    refine wpAnyH_ready (rs := [12]) (by kernel_rfl) (by simp) ?_
                    refine AllReadyH.cons (o := ?o40) ?hi40 (fun K hK => ?_) AllReadyH.nil
                    case hi40 => (simp only [List.getElem?_toArray, List.getElem?_cons_zero, List.getElem?_cons_succ]; exact rfl)
                    (go_simp; go_at_call 33; (with_reducible refine (SP2.out _ B6.out c hcN).mono ?_); rintro e w7 ⟨A7, c7, rfl, o7, b7⟩; rw [SL.out]; try dsimp only)
                    refine hK.out _ _ ?_ (fun hHeld => ?_)
                    · exact SN.out _ (b6.out.trans (b7.out.mono b6.out.size))
                    clear hK K
                    try simp only [Act.put, List.setIfInBounds_toArray, List.set_cons_zero, List.set_cons_succ]
                    obtain ⟨g7, hA7, _, _⟩ := o7.out.shape (by rw [SL.out]; omega)
                    subst hA7
                    have hv7 := o7.out.val (i := fn) (by rw [SL.out]; exact hfn)
                    rw [ZV.out] at hv7
                    refine wpAnyH_take (i := 14) (oi := ?o41) (v := ?v41) ?hi41 (by kernel_rfl) (by kernel_rfl) (by kernel_rfl) ?hQ41 (Or.inl ⟨?hg41, ?hy41⟩) (by assumption) ?rest41
                    case hi41 => (simp only [List.getElem?_toArray, List.getElem?_cons_zero, List.getElem?_cons_succ]; exact rfl)
                    case hQ41 => exact fun _ _ _ h => h
                    case hg41 => rfl
                    case hy41 => (intro w' hSw; (try dsimp only at hSw); go_simp; try with_reducible rfl)
                    try simp only [Act.put, List.setIfInBounds_toArray, List.set_cons_zero, List.set_cons_succ]
                    refine wpAnyH_ready (rs := [15]) (by kernel_rfl) (by simp) ?_
                    refine AllReadyH.cons (o := ?o42) ?hi42 (fun K hK => ?_) AllReadyH.nil
                    case hi42 => (simp only [List.getElem?_toArray, List.getElem?_cons_zero, List.getElem?_cons_succ]; exact rfl)
                    go_simp
                    refine hK.out _ _ ?_ (fun hHeld => ?_)
                    · exact SN.out _ (b6.out.trans (b7.out.mono b6.out.size))
                    clear hK K
                    try simp only [Act.put, List.setIfInBounds_toArray, List.set_cons_zero, List.set_cons_succ]
                    refine wpAnyH_take (i := 20) (oi := ?o43) (v := ?v43) ?hi43 (by kernel_rfl) (by kernel_rfl) (by kernel_rfl) ?hQ43 (Or.inl ⟨?hg43, ?hy43⟩) (by assumption) ?rest43
                    case hi43 => (simp only [List.getElem?_toArray, List.getElem?_cons_zero, List.getElem?_cons_succ]; exact rfl)
                    case hQ43 => exact fun _ _ _ h => h
                    case hg43 => rfl
                    case hy43 => (intro w' hSw; (try dsimp only at hSw); go_simp; try with_reducible rfl)
                    try simp only [Act.put, List.setIfInBounds_toArray, List.set_cons_zero, List.set_cons_succ]
                    refine wpAnyH_take (i := 21) (oi := ?o44) (v := ?v44) ?hi44 (by kernel_rfl) (by kernel_rfl) (by kernel_rfl) ?hQ44 (Or.inl ⟨?hg44, ?hy44⟩) (by assumption) ?rest44
                    case hi44 => (simp only [List.getElem?_toArray, List.getElem?_cons_zero, List.getElem?_cons_succ]; exact rfl)
                    case hQ44 => exact fun _ _ _ h => h
                    case hg44 => rfl
                    case hy44 => (intro w' hSw; (try dsimp only at hSw); go_simp; try with_reducible rfl)
                    try simp only [Act.put, List.setIfInBounds_toArray, List.set_cons_zero, List.set_cons_succ]
                    refine wpAnyH_done (by kernel_rfl) ?_ _
                    have O7 : Hid (OwnZ w7 B (some ⟨gl, 0, none⟩) cap' Ls) := Lib.hid (OwnZ.grew (w := w6) (OwnZ.grew (w := wk.drew) HO.out b6.out (Nat.le_refl _)) b7.out (Nat.le_refl _))
                    have D7 : Hid (Below B w5 w7) := Lib.hid ((HB2.out.drew.trans (b6.out.mono BS.out)).trans (b7.out.mono (Nat.le_trans BS.out b6.out.size)))
                    clear hv7 o7 b6 b7
                    go_wp2_with (at_builtin; refine wp_appZ rfl (.tmp 73) (.tmp 75) rfl rfl LEN.out (O7.out.grew ((Below.refl _ _).alloc (Nat.le_refl _) _) (Nat.le_refl _)) (by have h1 := D7.out.size; have h2 := HBS.out; simp; omega) rfl (cell_litN (by simp)) IC.out (by have := LEN.out; have := HM.out; omega) ?_; intro A8 c8 w8 o8 d8; have O8 := Lib.hid o8; have D8 := Lib.hid (grownZ_below (O7.out.grew ((Below.refl _ _).alloc (Nat.le_refl _) _) (Nat.le_refl _)) (by have h1 := D7.out.size; have h2 := HBS.out; simp; omega) d8); clear o8 d8)
                    go_roundw
                    case rel => exact ⟨i + 1, c, _, _, A8, c8, rfl, Lib.hid (by simp [SLEN.out]), HNX, hcN, O8, Lib.hid ((D7.out.alloc (by have h1 := D7.out.size; have h2 := HBS.out; omega) _).trans D8.out)⟩
                    case measure => (have h1 := HM.out; have h2 := SLEN.out; simp [lenZ]; omega)
                  · have hne : c ≠ bst := fun e => by
                      have := YES.out
                      rw [← e, NP.out] at this
                      exact hzr (by simpa using this)
                    have hd : (z == r) = false := by simpa using hzr
                    clear hzr
                    go_wp2_with fail
                    refine wp_region_held_drew (S := fun w' => w'.cell? ⟨w.heap.size, 0, none⟩ = some (.int .i64 (N : Int)) ∧ w'.cell? ⟨w.heap.size, 1, none⟩ = some (.slice A l cap) ∧ w'.cell? ⟨gl, i, none⟩ = some (.int .i64 (x : Int))) (by kernel_rfl) ?hS0 (fun hHeld => ?_)
                    case hS0 => exact S0.out
                    refine wpAnyH_take (i := 0) (oi := ?o45) (v := ?v45) ?hi45 (by kernel_rfl) (by kernel_rfl) (by kernel_rfl) ?hQ45 (Or.inl ⟨?hg45, ?hy45⟩) (by assumption) ?rest45
                    case hi45 => (simp only [List.getElem?_toArray, List.getElem?_cons_zero]; exact rfl)
                    case hQ45 => exact fun _ _ _ h => h
                    case hg45 => rfl
                    case hy45 => (intro w' hSw; (try dsimp only at hSw); go_simp; try with_reducible rfl)
                    try simp only [Act.put, List.setIfInBounds_toArray, List.set_cons_zero, List.set_cons_succ]
                    refine wpAnyH_take (i := 1) (oi := ?o46) (v := ?v46) ?hi46 (by kernel_rfl) (by kernel_rfl) (by kernel_rfl) ?hQ46 (Or.inl ⟨?hg46, ?hy46⟩) (by assumption) ?rest46
                    case hi46 => (simp only [List.getElem?_toArray, List.getElem?_cons_zero, List.getElem?_cons_succ]; exact rfl)
                    case hQ46 => exact fun _ _ _ h => h
                    case hg46 => rfl
                    case hy46 => (intro w' hSw; (try dsimp only at hSw); go_simp; try with_reducible rfl)
                    try simp only [Act.put, List.setIfInBounds_toArray, List.set_cons_zero, List.set_cons_succ]
                    refine wpAnyH_take (i := 2) (oi := ?o47) (v := ?v47) ?hi47 (by kernel_rfl) (by kernel_rfl) (by kernel_rfl) ?hQ47 (Or.inl ⟨?hg47, ?hy47⟩) (by assumption) ?rest47
                    case hi47 => (simp only [List.getElem?_toArray, List.getElem?_cons_zero, List.getElem?_cons_succ]; exact rfl)
                    case hQ47 => exact fun _ _ _ h => h
                    case hg47 => rfl
                    case hy47 => (intro w' hSw; (try dsimp only at hSw); go_simp; try with_reducible rfl)
                    try simp only [Act.put, List.setIfInBounds_toArray, List.set_cons_zero, List.set_cons_succ]
                    refine wpAnyH_take (i := 3) (oi := ?o48) (v := ?v48) ?hi48 (by kernel_rfl) (by kernel_rfl) (by kernel_rfl) ?hQ48 (Or.inl ⟨?hg48, ?hy48⟩) (by assumption) ?rest48
                    case hi48 => (simp only [List.getElem?_toArray, List.getElem?_cons_zero, List.getElem?_cons_succ]; exact rfl)
                    case hQ48 => exact fun _ _ _ h => h
                    case hg48 => rfl
                    case hy48 => (intro w' hSw; (try dsimp only at hSw); go_simp; try with_reducible rfl)
                    try simp only [Act.put, List.setIfInBounds_toArray, List.set_cons_zero, List.set_cons_succ]
                    refine wpAnyH_take (i := 4) (oi := ?o49) (v := ?v49) ?hi49 (by kernel_rfl) (by kernel_rfl) (by kernel_rfl) ?hQ49 (Or.inl ⟨?hg49, ?hy49⟩) (by assumption) ?rest49
                    case hi49 => (simp only [List.getElem?_toArray, List.getElem?_cons_zero, List.getElem?_cons_succ]; exact rfl)
                    case hQ49 => exact fun _ _ _ h => h
                    case hg49 => rfl
                    case hy49 => (intro w' hSw; (try dsimp only at hSw); go_simp; try with_reducible rfl)
                    try simp only [Act.put, List.setIfInBounds_toArray, List.set_cons_zero, List.set_cons_succ]
                    refine wpAnyH_take (i := 5) (oi := ?o50) (v := ?v50) ?hi50 (by kernel_rfl) (by kernel_rfl) (by kernel_rfl) ?hQ50 (Or.inl ⟨?hg50, ?hy50⟩) (by assumption) ?rest50
                    case hi50 => (simp only [List.getElem?_toArray, List.getElem?_cons_zero, List.getElem?_cons_succ]; exact rfl)
                    case hQ50 => exact fun _ _ _ h => h
                    case hg50 => rfl
                    case hy50 => (intro w' hSw; (try dsimp only at hSw); go_simp; try with_reducible rfl)
                    try simp only [Act.put, List.setIfInBounds_toArray, List.set_cons_zero, List.set_cons_succ]
                    refine wpAnyH_take (i := 6) (oi := ?o51) (v := ?v51) ?hi51 (by kernel_rfl) (by kernel_rfl) (by kernel_rfl) ?hQ51 (Or.inl ⟨?hg51, ?hy51⟩) (by assumption) ?rest51
                    case hi51 => (simp only [List.getElem?_toArray, List.getElem?_cons_zero, List.getElem?_cons_succ]; exact rfl)
                    case hQ51 => exact fun _ _ _ h => h
                    case hg51 => rfl
                    case hy51 => (intro w' hSw; (try dsimp only at hSw); go_simp; try with_reducible rfl)
                    try simp only [Act.put, List.setIfInBounds_toArray, List.set_cons_zero, List.set_cons_succ]
                    refine wpAnyH_take (i := 7) (oi := ?o52) (v := ?v52) ?hi52 (by kernel_rfl) (by kernel_rfl) (by kernel_rfl) ?hQ52 (Or.inl ⟨?hg52, ?hy52⟩) (by assumption) ?rest52
                    case hi52 => (simp only [List.getElem?_toArray, List.getElem?_cons_zero, List.getElem?_cons_succ]; exact rfl)
                    case hQ52 => exact fun _ _ _ h => h
                    case hg52 => rfl
                    case hy52 => (intro w' hSw; (try dsimp only at hSw); go_simp; try with_reducible rfl)
                    try simp only [Act.put, List.setIfInBounds_toArray, List.set_cons_zero, List.set_cons_succ]
                    refine wpAnyH_ready (rs := [8]) (by kernel_rfl) (by simp) ?_
                    refine AllReadyH.cons (o := ?o53) ?hi53 (fun K hK => ?_) AllReadyH.nil
                    case hi53 => (simp only [List.getElem?_toArray, List.getElem?_cons_zero, List.getElem?_cons_succ]; exact rfl)
                    (go_simp; go_at_call 32; (with_reducible refine (HC.out _ BW.out.drew).mono ?_); rintro e w6 ⟨rfl, b6⟩; try dsimp only)
                    refine hK.out _ _ ?_ (fun hHeld => ?_)
                    · exact SN.out _ b6.out
                    clear hK K
                    try simp only [Act.put, List.setIfInBounds_toArray, List.set_cons_zero, List.set_cons_succ]
                    have B6 : Hid (Below w.heap.size w w6) := Lib.hid (BW.out.drew.trans (b6.out.mono BW.out.size))
                    refine wpAnyH_take (i := 9) (oi := ?o54) (v := ?v54) ?hi54 (by kernel_rfl) (by kernel_rfl) (by kernel_rfl) ?hQ54 (Or.inl ⟨?hg54, ?hy54⟩) (by assumption) ?rest54
                    case hi54 => (simp only [List.getElem?_toArray, List.getElem?_cons_zero, List.getElem?_cons_succ]; exact rfl)
                    case hQ54 => exact fun _ _ _ h => h
                    case hg54 => rfl
                    case hy54 => (intro w' hSw; (try dsimp only at hSw); go_simp; try with_reducible rfl)
                    try simp only [Act.put, List.setIfInBounds_toArray, List.set_cons_zero, List.set_cons_succ]
                    refine wpAnyH_take (i := 10) (oi := ?o55) (v := ?v55) ?hi55 (by kernel_rfl) (by kernel_rfl) (by kernel_rfl) ?hQ55 (Or.inl ⟨?hg55, ?hy55⟩) (by assumption) ?rest55
                    case hi55 => (simp only [List.getElem?_toArray, List.getElem?_cons_zero, List.getElem?_cons_succ]; exact rfl)
                    case hQ55 => exact fun _ _ _ h => h
                    case hg55 => rfl
                    case hy55 => (intro w' hSw; (try dsimp only at hSw); go_simp; try with_reducible rfl)
                    try simp only [Act.put, List.setIfInBounds_toArray, List.set_cons_zero, List.set_cons_succ]
                    refine wpAnyH_take (i := 11) (oi := ?o56) (v := ?v56) ?hi56 (by kernel_rfl) (by kernel_rfl) (by kernel_rfl) ?hQ56 (Or.inl ⟨?hg56, ?hy56⟩) (by assumption) ?rest56
                    case hi56 => (simp only [List.getElem?_toArray, List.getElem?_cons_zero, List.getElem?_cons_succ]; exact rfl)
                    case hQ56 => exact fun _ _ _ h => h
                    case hg56 => rfl
                    case hy56 => (intro w' hSw; (try dsimp only at hSw); go_simp; try with_reducible rfl)
                    try simp only [Act.put, List.setIfInBounds_toArray, List.set_cons_zero, List.set_cons_succ]
                    refine wpAnyH_take (i := 13) (oi := ?o57) (v := ?v57) ?hi57 (by kernel_rfl) (by kernel_rfl) (by kernel_rfl) ?hQ57 (Or.inl ⟨?hg57, ?hy57⟩) (by assumption) ?rest57
                    case hi57 => (simp only [List.getElem?_toArray, List.getElem?_cons_zero, List.getElem?_cons_succ]; exact rfl)
                    case hQ57 => exact fun _ _ _ h => h
                    case hg57 => rfl
                    case hy57 => (intro w' hSw; (try dsimp only at hSw); go_simp; try with_reducible rfl)
                    try simp only [Act.put, List.setIfInBounds_toArray, List.set_cons_zero, List.set_cons_succ]
                    refine wpAnyH_take (i := 16) (oi := ?o58) (v := ?v58) ?hi58 (by kernel_rfl) (by kernel_rfl) (by kernel_rfl) ?hQ58 (Or.inl ⟨?hg58, ?hy58⟩) (by assumption) ?rest58
                    case hi58 => (simp only [List.getElem?_toArray, List.getElem?_cons_zero, List.getElem?_cons_succ]; exact rfl)
                    case hQ58 => exact fun _ _ _ h => h
                    case hg58 => rfl
                    case hy58 => (intro w' hSw; (try dsimp only at hSw); go_simp; try with_reducible rfl)
                    try simp only [Act.put, List.setIfInBounds_toArray, List.set_cons_zero, List.set_cons_succ]
                    refine wpAnyH_take (i := 17) (oi := ?o59) (v := ?v59) ?hi59 (by kernel_rfl) (by kernel_rfl) (by kernel_rfl) ?hQ59 (Or.inl ⟨?hg59, ?hy59⟩) (by assumption) ?rest59
                    case hi59 => (simp only [List.getElem?_toArray, List.getElem?_cons_zero, List.getElem?_cons_succ]; exact rfl)
                    case hQ59 => exact fun _ _ _ h => h
                    case hg59 => rfl
                    case hy59 => (intro w' hSw; (try dsimp only at hSw); go_simp; try with_reducible rfl)
                    try simp only [Act.put, List.setIfInBounds_toArray, List.set_cons_zero, List.set_cons_succ]
                    refine wpAnyH_take (i := 18) (oi := ?o60) (v := ?v60) ?hi60 (by kernel_rfl) (by kernel_rfl) (by kernel_rfl) ?hQ60 (Or.inl ⟨?hg60, ?hy60⟩) (by assumption) ?rest60
                    case hi60 => (simp only [List.getElem?_toArray, List.getElem?_cons_zero, List.getElem?_cons_succ]; exact rfl)
                    case hQ60 => exact fun _ _ _ h => h
                    case hg60 => rfl
                    case hy60 => (intro w' hSw; (try dsimp only at hSw); go_simp; try with_reducible rfl)
                    try simp only [Act.put, List.setIfInBounds_toArray, List.set_cons_zero, List.set_cons_succ]
                    refine wpAnyH_take (i := 19) (oi := ?o61) (v := ?v61) ?hi61 (by kernel_rfl) (by kernel_rfl) (by kernel_rfl) ?hQ61 (Or.inl ⟨?hg61, ?hy61⟩) (by assumption) ?rest61
                    case hi61 => (simp only [List.getElem?_toArray, List.getElem?_cons_zero, List.getElem?_cons_succ]; exact rfl)
                    case hQ61 => exact fun _ _ _ h => h
                    case hg61 => rfl
                    case hy61 => (intro w' hSw; (try dsimp only at hSw); go_simp; try with_reducible rfl)
                    try simp only [Act.put, List.setIfInBounds_toArray, List.set_cons_zero, List.set_cons_succ]
                    refine wpAnyH_ready (rs := [12]) (by kernel_rfl) (by simp) ?_
                    refine AllReadyH.cons (o := ?o62) ?hi62 (fun K hK => ?_) AllReadyH.nil
                    case hi62 => (simp only [List.getElem?_toArray, List.getElem?_cons_zero, List.getElem?_cons_succ]; exact rfl)
                    (go_simp; go_at_call 33; (with_reducible refine (SP2.out _ B6.out c hcN).mono ?_); rintro e w7 ⟨A7, c7, rfl, o7, b7⟩; rw [SL.out]; try dsimp only)
                    refine hK.out _ _ ?_ (fun hHeld => ?_)
                    · exact SN.out _ (b6.out.trans (b7.out.mono b6.out.size))
                    clear hK K
                    try simp only [Act.put, List.setIfInBounds_toArray, List.set_cons_zero, List.set_cons_succ]
                    obtain ⟨g7, hA7, _, _⟩ := o7.out.shape (by rw [SL.out]; omega)
                    subst hA7
                    have hv7 := o7.out.val (i := fn) (by rw [SL.out]; exact hfn)
                    rw [ZV.out] at hv7
                    refine wpAnyH_take (i := 14) (oi := ?o63) (v := ?v63) ?hi63 (by kernel_rfl) (by kernel_rfl) (by kernel_rfl) ?hQ63 (Or.inl ⟨?hg63, ?hy63⟩) (by assumption) ?rest63
                    case hi63 => (simp only [List.getElem?_toArray, List.getElem?_cons_zero, List.getElem?_cons_succ]; exact rfl)
                    case hQ63 => exact fun _ _ _ h => h
                    case hg63 => rfl
                    case hy63 => (intro w' hSw; (try dsimp only at hSw); go_simp; try with_reducible rfl)
                    try simp only [Act.put, List.setIfInBounds_toArray, List.set_cons_zero, List.set_cons_succ]
                    refine wpAnyH_ready (rs := [15]) (by kernel_rfl) (by simp) ?_
                    refine AllReadyH.cons (o := ?o64) ?hi64 (fun K hK => ?_) AllReadyH.nil
                    case hi64 => (simp only [List.getElem?_toArray, List.getElem?_cons_zero, List.getElem?_cons_succ]; exact rfl)
                    go_simp
                    refine hK.out _ _ ?_ (fun hHeld => ?_)
                    · exact SN.out _ (b6.out.trans (b7.out.mono b6.out.size))
                    clear hK K
                    try simp only [Act.put, List.setIfInBounds_toArray, List.set_cons_zero, List.set_cons_succ]
                    refine wpAnyH_take (i := 20) (oi := ?o65) (v := ?v65) ?hi65 (by kernel_rfl) (by kernel_rfl) (by kernel_rfl) ?hQ65 (Or.inl ⟨?hg65, ?hy65⟩) (by assumption) ?rest65
                    case hi65 => (simp only [List.getElem?_toArray, List.getElem?_cons_zero, List.getElem?_cons_succ]; exact rfl)
                    case hQ65 => exact fun _ _ _ h => h
                    case hg65 => rfl
                    case hy65 => (intro w' hSw; (try dsimp only at hSw); go_simp; try with_reducible rfl)
                    try simp only [Act.put, List.setIfInBounds_toArray, List.set_cons_zero, List.set_cons_succ]
                    refine wpAnyH_take (i := 21) (oi := ?o66) (v := ?v66) ?hi66 (by kernel_rfl) (by kernel_rfl) (by kernel_rfl) ?hQ66 (Or.inl ⟨?hg66, ?hy66⟩) (by assumption) ?rest66
                    case hi66 => (simp only [List.getElem?_toArray, List.getElem?_cons_zero, List.getElem?_cons_succ]; exact rfl)
                    case hQ66 => exact fun _ _ _ h => h
                    case hg66 => rfl
                    case hy66 => (intro w' hSw; (try dsimp only at hSw); go_simp; try with_reducible rfl)
                    try simp only [Act.put, List.setIfInBounds_toArray, List.set_cons_zero, List.set_cons_succ]
                    refine wpAnyH_done (by kernel_rfl) ?_ _
                    have O7 : Hid (OwnZ w7 B (some ⟨gl, 0, none⟩) cap' Ls) := Lib.hid (OwnZ.grew (w := w6) (OwnZ.grew (w := wk.drew) HO.out b6.out (Nat.le_refl _)) b7.out (Nat.le_refl _))
                    have D7 : Hid (Below B w5 w7) := Lib.hid ((HB2.out.drew.trans (b6.out.mono BS.out)).trans (b7.out.mono (Nat.le_trans BS.out b6.out.size)))
                    clear hv7 o7 b6 b7
                    go_wp2
                    go_roundw
                    case rel => exact ⟨c + 1, by omega, by go_num, rfl, O7, D7⟩
                    case measure => simp [intOf]; omega
            · obtain rfl : K = i := by omega
              have hlt' : b ≤ (m : Int) := by have := HM.out; have := HBK.out; omega
              have DN := Lib.hid HS2.out.done
              have LEN : Hid (m = (Gr.cycleI N es).length) := Lib.hid (by rw [E2.out, ← DN.out, HM.out, HS2.out.len])
              go_wp2
              go_ret
              exact ⟨A', cap', by rw [← LEN.out]; rfl, Lib.hid (by rw [E2.out, ← DN.out]; exact HO.out.low (by have h1 := HB.out.size; have h2 := HBS.out; omega)), Lib.hid (HB.out.trans (HB2.out.mono (by have h1 := HB.out.size; have h2 := HBS.out; omega)))⟩
end Go.Proofs.Ytiapacbbfgihdaa
