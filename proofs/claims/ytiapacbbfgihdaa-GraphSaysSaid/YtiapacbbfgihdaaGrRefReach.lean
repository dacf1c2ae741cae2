/-
  The reference: Reach at every graph.
-/
import Derived.Test.YtiapacbbfgihdaaGrRefSteps
namespace Go.Proofs.Ytiapacbbfgihdaa
open Go.RowKit
theorem Gr.stepsV_get {es : Gr.EI} {N : Nat} (h : Gr.Good N es) (a i : Nat) (hi : i < N) : (Gr.stepsV es N a).getD i 0 = Gr.dist (Gr.nat es) N a i := by
  have hl := h.low
  rw [Int.toNat_natCast] at hl
  rw [← Gr.getD_two _ _ (by rw [Gr.stepsV_len h N a rfl]; exact hi)]
  exact Gr.rounds_dist a i hl
theorem Gr.steps_some {es : Gr.EI} {N : Nat} (h : Gr.Good N es) (a i : Nat) (hi : i < N) : (Gr.fin N es a i).isSome = decide (0 ≤ (Gr.stepsV es N a).getD i 0) := by
  rw [Gr.stepsV_get h a i hi, h.fin_isSome, Int.toNat_natCast]
theorem Gr.steps_fin {es : Gr.EI} {N : Nat} (h : Gr.Good N es) (a i : Nat) (hi : i < N) : Gr.fin N es a i = if (Gr.stepsV es N a).getD i 0 < 0 then none else some ((Gr.stepsV es N a).getD i 0) := by
  rw [Gr.stepsV_get h a i hi, h.fin_dist, Int.toNat_natCast]
theorem Gr.reachI_out {n : Int} {es : Gr.EI} {v : Int} (hv : ¬ (0 ≤ v ∧ v < n)) : Gr.reachI n es v = [] := by
  unfold Gr.reachI
  split
  · next hg =>
    have e : (List.range n.toNat).filter (fun b : Nat => (Gr.fin n es v b).isSome) = [] := by
      rw [List.filter_eq_nil_iff]
      intro b _
      rw [(Gr.goodV_iff.1 hg).fin_out v b fun h => hv ⟨h.1, h.2.1⟩]
      decide
    rw [e]; rfl
  · rfl
set_option maxHeartbeats 4000000 in
theorem refReach_any (n : Int) (A : Option Addr) (es : Gr.EI) (cap : Nat) (v : Int) (hl : es.length ≤ 100000) (w : World) (h : Edg w w.heap.size A es) :
    Calls Try.prog 23 #[.agg #[.int .i64 n, .slice A es.length cap], .int .i64 v] w (ListG w (Gr.reachI n es v)) := by
  have GD : Hid (∀ W, Below w.heap.size w W → Calls Try.prog 19 #[.agg #[.int .i64 n, .slice A es.length cap]] W (BoolG W (Gr.goodV n es))) := Lib.hid fun W hW => refGood_any n A es cap (by omega) W (h.on hW)
  have SP : Hid (∀ W, Below w.heap.size w W → ∀ (N a : Nat), n = (N : Int) → a < N → Gr.Good n es → Calls Try.prog 33 #[.agg #[.int .i64 n, .slice A es.length cap], .int .i64 (a : Int)] W (ListG W (Gr.stepsV es N a))) := Lib.hid fun W hW N a e ha hg => by
    subst e
    exact refSteps_any N A es cap a ha hl hg W (h.on hW)
  generalize es.length = l at *
  clear h hl
  obtain ⟨W1, hW1⟩ : ∃ W1, W1 = w.alloc (.cells #[.int .i64 n, .slice A l cap] 38) := ⟨_, rfl⟩
  have P1 : Hid (W1.heap[w.heap.size]? = some (.cells #[.int .i64 n, .slice A l cap] 38 (0, 0))) := Lib.hid (by rw [hW1]; exact heap_alloc_new ..)
  have B1 : Hid (Below w.heap.size w W1) := Lib.hid (by rw [hW1]; exact (Below.refl _ _).alloc (Nat.le_refl _) _)
  obtain ⟨⟨x0, x1⟩, -⟩ := obG P1.out
  cases hg : Gr.goodV n es with
  | false =>
    rw [hg] at GD
    have E : Hid (Gr.reachI n es v = []) := Lib.hid (by unfold Gr.reachI; rw [hg]; rfl)
    clear hg
    go_enter Try.func23, Try.ntmps23
    go_wp2_with fail
    rw [← hW1]
    clear hW1
    go_wp2_with fail
    (with_reducible refine (GD.out _ B1.out).mono ?_); rintro e w2 ⟨rfl, b2⟩
    go_wp2
    go_ret
    rw [E.out]
    exact ⟨none, 0, rfl, Lib.hid (OwnZ.none_ _ _), Lib.hid (B1.out.trans (b2.out.mono B1.out.size))⟩
  | true =>
    rw [hg] at GD
    have G := Gr.goodV_iff.1 hg
    obtain ⟨N, hN⟩ : ∃ N : Nat, n = (N : Int) := ⟨n.toNat, by have := G.n0; omega⟩
    have hN16 : N ≤ 16 := by have := G.n16; omega
    by_cases hv : 0 ≤ v ∧ v < n
    · obtain ⟨a, rfl⟩ : ∃ a : Nat, v = (a : Int) := ⟨v.toNat, by omega⟩
      have E : Hid (Gr.reachI n es a = Gr.reachK N es a N) := Lib.hid (by rw [Gr.reachI_good hg, hN, Int.toNat_natCast])
      have ha : a < N := by omega
      have SP2 : Hid (∀ W, Below w.heap.size w W → Calls Try.prog 33 #[.agg #[.int .i64 n, .slice A l cap], .int .i64 (a : Int)] W (ListG W (Gr.stepsV es N a))) := Lib.hid fun W hW => SP.out W hW N a hN ha G
      subst hN
      have HG := Lib.hid G
      have hva : (a : Int) < (N : Int) := hv.2
      clear hg G SP hv
      go_enter Try.func23, Try.ntmps23
      go_wp2_with fail
      rw [← hW1]
      clear hW1
      go_wp2_with fail
      (with_reducible refine (GD.out _ B1.out).mono ?_); rintro e w2 ⟨rfl, b2⟩
      have P2 : Hid (w2.heap[w.heap.size]? = some (.cells #[.int .i64 (N : Int), .slice A l cap] 38 (0, 0))) := Lib.hid ((b2.out.block _ (lt_of_block P1.out)).trans P1.out)
      have B2 : Hid (Below w.heap.size w w2) := Lib.hid (B1.out.trans (b2.out.mono B1.out.size))
      clear b2
      obtain ⟨⟨y0, y1⟩, -⟩ := obG P2.out
      go_wp2_with fail
      (with_reducible refine (SP2.out _ B2.out).mono ?_); rintro e w3 ⟨A3, c3, rfl, o3, b3⟩
      have P3 : Hid (w3.heap[w.heap.size]? = some (.cells #[.int .i64 (N : Int), .slice A l cap] 38 (0, 0))) := Lib.hid ((b3.out.block _ (lt_of_block P2.out)).trans P2.out)
      have B3 : Hid (Below w.heap.size w w3) := Lib.hid (B2.out.trans (b3.out.mono B2.out.size))
      have DZ : Hid (Zs w3 w3.heap.size A3 (Gr.stepsV es N a)) := Lib.hid o3.out.zs
      have DL := Lib.hid (Gr.stepsV_len HG.out N a rfl)
      obtain ⟨L, hL⟩ : ∃ L, L = (Gr.stepsV es N a).length := ⟨_, rfl⟩
      have hLN : L = N := by rw [hL, DL.out]
      rw [← hL]
      subst hLN
      clear b3 o3 hL
      go_wp2_with fail
      go_loopw [5, 7] (fun lv iv wr => ∃ (k m : Nat) (A' : Option Addr) (cap' : Nat), k ≤ L ∧ iv = .int .i64 k ∧ lv = .slice A' m cap' ∧ Hid (m = (Gr.reachK L es a k).length) ∧ Hid (OwnZ wr w3.heap.size A' cap' (Gr.reachK L es a k)) ∧ Hid (Below w3.heap.size w3 wr)) (fun _ iv _ => L - (intOf iv).toNat)
      case atStart => exact ⟨0, 0, none, 0, Nat.zero_le _, rfl, rfl, Lib.hid rfl, Lib.hid (OwnZ.none_ _ _), Lib.hid (Below.refl _ _)⟩
      case round =>
        obtain ⟨k, m, A', cap', hk, rfl, rfl, HM, HO, HB⟩ := hrel
        have PR : Hid (wr.heap[w.heap.size]? = some (.cells #[.int .i64 (L : Int), .slice A l cap] 38 (0, 0))) := Lib.hid ((HB.out.block _ (lt_of_block P3.out)).trans P3.out)
        obtain ⟨⟨z0, z1⟩, -⟩ := obG PR.out
        by_cases hlt : k < L
        · have hlt' : (k : Int) < (L : Int) := by omega
          have IK : Hid (inI (k : Int)) := Lib.hid ⟨by omega, by omega⟩
          have ST := Lib.hid (Gr.reachK_next L es a k)
          have LK := Lib.hid (Gr.reachK_len L es a k)
          have SS := Lib.hid (Gr.steps_some HG.out a k hlt)
          obtain ⟨b, off, z, rfl, hb, hc, hz, _, _⟩ := (DZ.out.below HB.out).at_ (k := k) (by rw [DL.out]; exact hlt)
          rw [hz.out] at SS
          clear hz
          by_cases hz0 : 0 ≤ z
          · have E1 : Hid (Gr.reachK L es a (k + 1) = Gr.reachK L es a k ++ [(k : Int)]) := Lib.hid (by rw [ST.out, SS.out, decide_eq_true hz0]; rfl)
            go_wp2_with (at_builtin; refine wp_appZ rfl (.tmp 35) (.tmp 37) rfl rfl HM.out (HO.out.grew ((Below.refl _ _).alloc (Nat.le_refl _) _) (Nat.le_refl _)) (by have := HB.out.size; simp; omega) rfl (cell_litN (by simp)) IK.out (by have := LK.out; omega) ?_; intro A5 c5 w4 o5 d5; have O5 := Lib.hid o5; have D5 := Lib.hid (grownZ_below (HO.out.grew ((Below.refl _ _).alloc (Nat.le_refl _) _) (Nat.le_refl _)) (by have := HB.out.size; simp; omega) d5); clear o5 d5)
            go_roundw
            case rel => exact ⟨k + 1, _, A5, c5, by omega, by go_num, rfl, Lib.hid (by rw [E1.out]; simp), Lib.hid (by rw [E1.out]; exact O5.out), Lib.hid ((HB.out.alloc HB.out.size _).trans D5.out)⟩
            case measure => simp [intOf]; omega
          · have E1 : Hid (Gr.reachK L es a (k + 1) = Gr.reachK L es a k) := Lib.hid (by rw [ST.out, SS.out, decide_eq_false hz0]; simp)
            have hz1 : z < 0 := by omega
            clear hz0
            go_wp2
            go_roundw
            case rel => exact ⟨k + 1, m, A', cap', by omega, by go_num, rfl, Lib.hid (by rw [E1.out]; exact HM.out), Lib.hid (by rw [E1.out]; exact HO.out), HB⟩
            case measure => simp [intOf]; omega
        · obtain rfl : L = k := by omega
          have ML : Hid (m = (Gr.reachI L es a).length) := Lib.hid (by rw [HM.out, E.out])
          go_wp2
          go_ret
          exact ⟨A', cap', by rw [← ML.out]; rfl, Lib.hid (by rw [E.out]; exact HO.out.low B3.out.size), Lib.hid (B3.out.trans (HB.out.mono B3.out.size))⟩
    · have E : Hid (Gr.reachI n es v = []) := Lib.hid (Gr.reachI_out hv)
      clear hg G SP hN
      by_cases h0 : v < 0
      · go_enter Try.func23, Try.ntmps23
        go_wp2_with fail
        rw [← hW1]
        clear hW1
        go_wp2_with fail
        (with_reducible refine (GD.out _ B1.out).mono ?_); rintro e w2 ⟨rfl, b2⟩
        go_wp2
        go_ret
        rw [E.out]
        exact ⟨none, 0, rfl, Lib.hid (OwnZ.none_ _ _), Lib.hid (B1.out.trans (b2.out.mono B1.out.size))⟩
      · have h1 : n ≤ v := by omega
        have h2 : 0 ≤ v := by omega
        clear h0 hv
        go_enter Try.func23, Try.ntmps23
        go_wp2_with fail
        rw [← hW1]
        clear hW1
        go_wp2_with fail
        (with_reducible refine (GD.out _ B1.out).mono ?_); rintro e w2 ⟨rfl, b2⟩
        have P2 : Hid (w2.heap[w.heap.size]? = some (.cells #[.int .i64 n, .slice A l cap] 38 (0, 0))) := Lib.hid ((b2.out.block _ (lt_of_block P1.out)).trans P1.out)
        obtain ⟨⟨y0, y1⟩, -⟩ := obG P2.out
        go_wp2
        go_ret
        rw [E.out]
        exact ⟨none, 0, rfl, Lib.hid (OwnZ.none_ _ _), Lib.hid (B1.out.trans (b2.out.mono B1.out.size))⟩
end Go.Proofs.Ytiapacbbfgihdaa
