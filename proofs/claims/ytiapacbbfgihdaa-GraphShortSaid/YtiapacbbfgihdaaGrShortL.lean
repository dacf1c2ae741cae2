/-
  The law GraphShort walked.
-/
import Derived.Test.YtiapacbbfgihdaaGrThree
import Derived.Test.YtiapacbbfgihdaaGrShort
import Derived.Test.YtiapacbbfgihdaaGrCycle
import Derived.Test.YtiapacbbfgihdaaGrLawsP
import Derived.Test.YtiapacbbfgihdaaKeepCell
namespace Go.Proofs.Ytiapacbbfgihdaa
open Go.RowKit
theorem Gr.nat_len (es : Gr.EI) : (Gr.nat es).length = es.length := by simp [Gr.nat]
theorem Gr.short_facts {es : Gr.EI} {N : Nat} (h : Gr.Good N es) (ht : Gr.Tree (Gr.nat es)) :
    Gr.Good N (Gr.shortI N es) ∧ (Gr.shortI N es).length ≤ es.length ∧ (∀ a : Nat, Gr.reachI N (Gr.shortI N es) a = Gr.ints (Gr.reachV (Gr.nat es) N a)) ∧ (Gr.shortI N (Gr.shortI N es)).length = (Gr.shortI N es).length := by
  have e := Gr.shortI_tree h ht
  have g : Gr.Good N (Gr.shortI N es) := by rw [e]; exact h.sub List.filter_sublist
  have n : Gr.nat (Gr.shortI N es) = Gr.shortV (Gr.nat es) N := by
    have := h.short ht
    rw [e, this, Int.toNat_natCast]
  have l := Gr.low_nat h
  have t2 : Gr.Tree (Gr.nat (Gr.shortI N es)) := by rw [n]; exact ht.sub Gr.short_sub
  refine ⟨g, by rw [e]; exact List.length_filter_le _ _, fun a => ?_, ?_⟩
  · rw [Gr.reachI_eq g, n, Gr.reach_short l ht]
  · have h3 := g.short t2
    rw [← Gr.shortI_tree g t2, Int.toNat_natCast, n, Gr.short_again l ht, ← n] at h3
    have := congrArg List.length h3
    rwa [Gr.nat_len, Gr.nat_len] at this
theorem Gr.reach_len' (es : Gr.E) (n a : Nat) : (Gr.reachV es n a).length ≤ n := by
  unfold Gr.reachV
  exact Nat.le_trans (List.length_filter_le _ _) (by rw [List.length_range]; exact Nat.le_refl _)
set_option maxRecDepth 100000 in
set_option maxHeartbeats 8000000 in
theorem shortl_walk (A : Option Addr) (es : List (Int × Int)) (cap : Nat) (n : Int) (w : World) (hl : es.length ≤ 9223372036854775807) (_hcap : es.length ≤ cap) (h : Edg w w.heap.size A es) :
    Calls Try.prog 6 #[.agg #[.int .i64 n, .slice A es.length cap]] w (BoolG w true) := by
  have AW : Hid (∀ W, Calls Try.prog 8 #[] W (BoolG W true)) := Lib.hid awake_any
  have GD : Hid (es.length ≤ 60 → ∀ W, Below w.heap.size w W → Calls Try.prog 9 #[.agg #[.int .i64 n, .slice A es.length cap]] W (BoolG W (Gr.goodV n es))) := Lib.hid fun hs W hW => good_any n A es cap (by omega) W (h.on hW)
  have RE : Hid (es.length ≤ 60 → ∀ W (x : Int), inI x → Below w.heap.size w W → Calls Try.prog 12 #[.agg #[.int .i64 n, .slice A es.length cap], .int .i64 x] W (ListG W (Gr.reachI n es x))) := Lib.hid fun hs W x hx hW => reach_any n A es cap x hx (by omega) W (h.on hW)
  have SE : Hid (es.length ≤ 60 → ∀ W, Below w.heap.size w W → Calls Try.prog 13 #[.agg #[.int .i64 n, .slice A es.length cap]] W (GrPost W n (Gr.shortI n es))) := Lib.hid fun hs W hW => short_any n A es cap (by omega) W (h.on hW)
  have CE : Hid (es.length ≤ 60 → ∀ W, Below w.heap.size w W → Calls Try.prog 10 #[.agg #[.int .i64 n, .slice A es.length cap]] W (ListG W (Gr.cycleI n es))) := Lib.hid fun hs W hW => cycle_any n A es cap (by omega) W (h.on hW)
  obtain ⟨l, hll⟩ : ∃ l, l = es.length := ⟨_, rfl⟩
  have HLL := Lib.hid hll
  rw [← hll] at GD RE SE CE ⊢
  obtain ⟨W1, hW1⟩ : ∃ W1, W1 = w.alloc (.cells #[.int .i64 n, .slice A l cap] 25) := ⟨_, rfl⟩
  have P1 : Hid (W1.heap[w.heap.size]? = some (.cells #[.int .i64 n, .slice A l cap] 25 (0, 0))) := Lib.hid (by rw [hW1]; exact heap_alloc_new ..)
  have B1 : Hid (Below w.heap.size w W1) := Lib.hid (by rw [hW1]; exact (Below.refl _ _).alloc (Nat.le_refl _) _)
  clear h hl hll
  go_enter Try.func6, Try.ntmps6
  go_wp2_with fail
  rw [← hW1]
  clear hW1
  (with_reducible refine (AW.out _).mono ?_); rintro e w2 ⟨rfl, b2⟩
  have P2 : Hid (w2.heap[w.heap.size]? = some (.cells #[.int .i64 n, .slice A l cap] 25 (0, 0))) := Lib.hid ((b2.out.block _ (lt_of_block P1.out)).trans P1.out)
  have B2 : Hid (Below w.heap.size w w2) := Lib.hid (B1.out.trans (b2.out.mono B1.out.size))
  clear b2
  obtain ⟨⟨y0, y1⟩, -⟩ := obG P2.out
  by_cases h60 : 60 < l
  · have h60' : (60 : Int) < (l : Int) := by omega
    go_wp2
    go_ret
    exact ⟨rfl, B2⟩
  have h60' : (l : Int) ≤ 60 := by omega
  have GD2 := Lib.hid (GD.out (by omega))
  have RE2 := Lib.hid (RE.out (by omega))
  have SE2 := Lib.hid (SE.out (by omega))
  have CE2 := Lib.hid (CE.out (by omega))
  clear h60 GD RE SE CE
  cases hg : Gr.goodV n es with
  | false =>
    rw [hg] at GD2
    clear hg
    go_wp2_with fail
    (with_reducible refine (GD2.out _ B2.out).mono ?_); rintro e w3 ⟨rfl, b3⟩
    go_wp2
    go_ret
    exact ⟨rfl, Lib.hid (B2.out.trans (b3.out.mono B2.out.size))⟩
  | true =>
    rw [hg] at GD2
    have HG := Lib.hid (Gr.goodV_iff.1 hg)
    clear hg
    go_wp2_with fail
    (with_reducible refine (GD2.out _ B2.out).mono ?_); rintro e w3 ⟨rfl, b3⟩
    have P3 : Hid (w3.heap[w.heap.size]? = some (.cells #[.int .i64 n, .slice A l cap] 25 (0, 0))) := Lib.hid ((b3.out.block _ (lt_of_block P2.out)).trans P2.out)
    have B3 : Hid (Below w.heap.size w w3) := Lib.hid (B2.out.trans (b3.out.mono B2.out.size))
    clear b3 y0 y1
    obtain ⟨⟨y0, y1⟩, -⟩ := obG P3.out
    obtain ⟨N, hN⟩ : ∃ N : Nat, n = (N : Int) := ⟨n.toNat, by have := HG.out.n0; omega⟩
    subst hN
    have hN16 : N ≤ 16 := by have := HG.out.n16; omega
    have CEa := Lib.hid (CE2.out w3 B3.out)
    have CN := Lib.hid (Gr.cycleI_nil HG.out)
    have hm16 : (Gr.cycleI N es).length ≤ 16 := by
      rw [Gr.cycleI_good HG.out, Gr.ints_len, Int.toNat_natCast]
      have := (Gr.cycle_spec (Gr.low_nat HG.out)).2
      omega
    clear CE2 GD2
    obtain ⟨m, hm⟩ : ∃ m, m = (Gr.cycleI N es).length := ⟨_, rfl⟩
    have HM : Hid (m = 0 → Gr.Tree (Gr.nat es)) := Lib.hid fun h0 => CN.out.1 (by rw [h0] at hm; exact List.isEmpty_iff_length_eq_zero.2 hm.symm)
    go_wp2_with fail
    (with_reducible refine CEa.out.mono ?_); rintro e w4 ⟨A4, c4, rfl, o4, b4⟩
    rw [← hm] at hm16 ⊢
    have P4 : Hid (w4.heap[w.heap.size]? = some (.cells #[.int .i64 (N : Int), .slice A l cap] 25 (0, 0))) := Lib.hid ((b4.out.block _ (lt_of_block P3.out)).trans P3.out)
    have B4 : Hid (Below w.heap.size w w4) := Lib.hid (B3.out.trans (b4.out.mono B3.out.size))
    clear o4 b4 CEa y0 y1 CN hm
    obtain ⟨⟨y0, y1⟩, -⟩ := obG P4.out
    rcases Nat.eq_zero_or_pos m with hm0 | hm0
    case inr =>
      have hm0' : (0 : Int) < (m : Int) := by omega
      go_wp2
      go_ret
      exact ⟨rfl, B4⟩
    subst hm0
    have TR := Lib.hid (HM.out rfl)
    obtain ⟨f1, f2, f3, f4⟩ := Gr.short_facts HG.out TR.out
    have F1 := Lib.hid f1
    have F3 := Lib.hid f3
    have F4 := Lib.hid f4
    clear f1 f3 f4 HM hm16
    rw [← HLL.out] at f2
    go_wp2_with fail
    (with_reducible refine (SE2.out _ B4.out).mono ?_); rintro e w5 ⟨A5, c5, rfl, o5, b5⟩
    obtain ⟨fs, hfs⟩ : ∃ fs, fs = Gr.shortI N es := ⟨_, rfl⟩
    rw [← hfs] at o5 F1 F3 F4 f2 ⊢
    have B5 : Hid (Below w.heap.size w w5) := Lib.hid (B4.out.trans (b5.out.mono B4.out.size))
    have P5 : Hid (w5.heap[w.heap.size]? = some (.cells #[.int .i64 (N : Int), .slice A l cap] 25 (0, 0))) := Lib.hid ((b5.out.block _ (lt_of_block P4.out)).trans P4.out)
    have E5 : Hid (Edg w5 w5.heap.size A5 fs) := Lib.hid o5.out.edg
    have RF : Hid (∀ W (k : Nat), k < N → Below w5.heap.size w5 W → Calls Try.prog 12 #[.agg #[.int .i64 (N : Int), .slice A5 fs.length c5], .int .i64 (k : Int)] W (ListG W (Gr.ints (Gr.reachV (Gr.nat es) N k)))) := Lib.hid fun W k hk hW => by
      have := reach_any N A5 fs c5 k ⟨by omega, by omega⟩ (by omega) W (E5.out.on hW)
      rwa [F3.out k] at this
    have RG : Hid (∀ W (k : Nat), k < N → Below w5.heap.size w5 W → Calls Try.prog 12 #[.agg #[.int .i64 (N : Int), .slice A l cap], .int .i64 (k : Int)] W (ListG W (Gr.ints (Gr.reachV (Gr.nat es) N k)))) := Lib.hid fun W k hk hW => by
      have := RE2.out W k ⟨by omega, by omega⟩ (B5.out.trans (hW.mono B5.out.size))
      rwa [Gr.reachI_eq HG.out] at this
    have SF : Hid (∀ W, Below w5.heap.size w5 W → Calls Try.prog 13 #[.agg #[.int .i64 (N : Int), .slice A5 fs.length c5]] W (GrPost W N (Gr.shortI N fs))) := Lib.hid fun W hW => short_any N A5 fs c5 (by omega) W (E5.out.on hW)
    obtain ⟨l2, hl2⟩ : ∃ l2, l2 = fs.length := ⟨_, rfl⟩
    have HL2 := Lib.hid hl2
    rw [← hl2] at RF SF f2 F4 ⊢
    clear hfs hl2 o5 b5 RE2 SE2 y0 y1 F1 F3
    obtain ⟨X, hX⟩ : ∃ X, X = w5.heap.size := ⟨_, rfl⟩
    obtain ⟨W6, hW6⟩ : ∃ W6, W6 = w5.alloc (.cells #[.int .i64 (N : Int), .slice A5 l2 c5] 25) := ⟨_, rfl⟩
    have X6 : Hid (W6.heap[X]? = some (.cells #[.int .i64 (N : Int), .slice A5 l2 c5] 25 (0, 0))) := Lib.hid (by rw [hW6, hX]; exact heap_alloc_new ..)
    have B6 : Hid (Below w5.heap.size w5 W6) := Lib.hid (by rw [hW6]; exact (Below.refl _ _).alloc (Nat.le_refl _) _)
    have P6 : Hid (W6.heap[w.heap.size]? = some (.cells #[.int .i64 (N : Int), .slice A l cap] 25 (0, 0))) := Lib.hid ((B6.out.block _ (lt_of_block P5.out)).trans P5.out)
    go_wp2_with fail
    rw [← hW6, ← hX]
    clear hW6 hX
    go_loopw [4] (fun iv wr => ∃ k : Nat, k ≤ N ∧ iv = .int .i64 k ∧ Hid (Below W6.heap.size W6 wr)) (fun iv _ => N - (intOf iv).toNat)
    case atStart => exact ⟨0, Nat.zero_le _, rfl, Lib.hid (Below.refl _ _)⟩
    case round =>
      obtain ⟨k, hk, rfl, HB⟩ := hrel
      have PR : Hid (wr.heap[w.heap.size]? = some (.cells #[.int .i64 (N : Int), .slice A l cap] 25 (0, 0))) := Lib.hid ((HB.out.block _ (lt_of_block P6.out)).trans P6.out)
      have XR : Hid (wr.heap[X]? = some (.cells #[.int .i64 (N : Int), .slice A5 l2 c5] 25 (0, 0))) := Lib.hid ((HB.out.block _ (lt_of_block X6.out)).trans X6.out)
      have D6 : Hid (Below w5.heap.size w5 wr) := Lib.hid (B6.out.trans (HB.out.mono B6.out.size))
      obtain ⟨⟨x0, x1⟩, -⟩ := obG PR.out
      obtain ⟨⟨z0, z1⟩, -⟩ := obG XR.out
      by_cases hlt : k < N
      · have hlt' : (k : Int) < (N : Int) := by omega
        have S0 := Lib.hid (And.intro x0 (And.intro x1 (And.intro z0 z1)))
        have CF : Hid (∀ W, Below wr.drew.heap.size wr.drew W → Calls Try.prog 12 #[.agg #[.int .i64 (N : Int), .slice A5 l2 c5], .int .i64 (k : Int)] W (ListG W (Gr.ints (Gr.reachV (Gr.nat es) N k)))) := Lib.hid fun W hW => RF.out W k hlt (D6.out.drew.trans (hW.mono D6.out.drew.size))
        have CG : Hid (∀ W, Below wr.drew.heap.size wr.drew W → Calls Try.prog 12 #[.agg #[.int .i64 (N : Int), .slice A l cap], .int .i64 (k : Int)] W (ListG W (Gr.ints (Gr.reachV (Gr.nat es) N k)))) := Lib.hid fun W hW => RG.out W k hlt (D6.out.drew.trans (hW.mono D6.out.drew.size))
        have hR16 : (Gr.ints (Gr.reachV (Gr.nat es) N k)).length ≤ 16 := by
          rw [Gr.ints_len]
          have := Gr.reach_len' (Gr.nat es) N k
          omega
        generalize Gr.ints (Gr.reachV (Gr.nat es) N k) = R at *
        go_wp2_with fail
        refine wp_region_held_drew (S := fun w' => w'.cell? ⟨w.heap.size, 0, none⟩ = some (.int .i64 (N : Int)) ∧ w'.cell? ⟨w.heap.size, 1, none⟩ = some (.slice A l cap) ∧ w'.cell? ⟨X, 0, none⟩ = some (.int .i64 (N : Int)) ∧ w'.cell? ⟨X, 1, none⟩ = some (.slice A5 l2 c5)) (by kernel_rfl) ?hS0 (fun hHeld => ?_)
        case hS0 => exact S0.out
        refine wpAnyH_take (i := 0) (oi := ?o1) (v := ?v1) ?hi1 (by kernel_rfl) (by kernel_rfl) (by kernel_rfl) ?hQ1 (Or.inl ⟨?hg1, ?hy1⟩) (by assumption) ?rest1
        case hi1 => (simp only [List.getElem?_toArray, List.getElem?_cons_zero]; exact rfl)
        case hQ1 => exact fun _ _ _ h => h
        case hg1 => rfl
        case hy1 => (intro w' hSw; (try dsimp only at hSw); go_simp; try with_reducible rfl)
        try simp only [Act.put, List.setIfInBounds_toArray, List.set_cons_zero, List.set_cons_succ]
        refine wpAnyH_take (i := 1) (oi := ?o2) (v := ?v2) ?hi2 (by kernel_rfl) (by kernel_rfl) (by kernel_rfl) ?hQ2 (Or.inl ⟨?hg2, ?hy2⟩) (by assumption) ?rest2
        case hi2 => (simp only [List.getElem?_toArray, List.getElem?_cons_zero, List.getElem?_cons_succ]; exact rfl)
        case hQ2 => exact fun _ _ _ h => h
        case hg2 => rfl
        case hy2 => (intro w' hSw; (try dsimp only at hSw); go_simp; try with_reducible rfl)
        try simp only [Act.put, List.setIfInBounds_toArray, List.set_cons_zero, List.set_cons_succ]
        refine wpAnyH_take (i := 3) (oi := ?o3) (v := ?v3) ?hi3 (by kernel_rfl) (by kernel_rfl) (by kernel_rfl) ?hQ3 (Or.inl ⟨?hg3, ?hy3⟩) (by assumption) ?rest3
        case hi3 => (simp only [List.getElem?_toArray, List.getElem?_cons_zero, List.getElem?_cons_succ]; exact rfl)
        case hQ3 => exact fun _ _ _ h => h
        case hg3 => rfl
        case hy3 => (intro w' hSw; (try dsimp only at hSw); go_simp; try with_reducible rfl)
        try simp only [Act.put, List.setIfInBounds_toArray, List.set_cons_zero, List.set_cons_succ]
        refine wpAnyH_take (i := 4) (oi := ?o4) (v := ?v4) ?hi4 (by kernel_rfl) (by kernel_rfl) (by kernel_rfl) ?hQ4 (Or.inl ⟨?hg4, ?hy4⟩) (by assumption) ?rest4
        case hi4 => (simp only [List.getElem?_toArray, List.getElem?_cons_zero, List.getElem?_cons_succ]; exact rfl)
        case hQ4 => exact fun _ _ _ h => h
        case hg4 => rfl
        case hy4 => (intro w' hSw; (try dsimp only at hSw); go_simp; try with_reducible rfl)
        try simp only [Act.put, List.setIfInBounds_toArray, List.set_cons_zero, List.set_cons_succ]
        refine wpAnyH_ready (rs := [2]) (by kernel_rfl) (by simp) ?_
        refine AllReadyH.cons (o := ?o5) ?hi5 (fun K hK => ?_) AllReadyH.nil
        case hi5 => (simp only [List.getElem?_toArray, List.getElem?_cons_zero, List.getElem?_cons_succ]; exact rfl)
        (go_simp; go_at_call 12; (with_reducible refine (CF.out _ (Below.refl _ _)).mono ?_); rintro e w6 ⟨A6, c6, rfl, o6, b6⟩; try dsimp only)
        refine hK.out _ _ ?_ (fun hHeld => ?_)
        · exact ⟨keep_cell b6.out hHeld.1, keep_cell b6.out hHeld.2.1, keep_cell b6.out hHeld.2.2.1, keep_cell b6.out hHeld.2.2.2⟩
        clear hK K
        try simp only [Act.put, List.setIfInBounds_toArray, List.set_cons_zero, List.set_cons_succ]
        refine wpAnyH_ready (rs := [5]) (by kernel_rfl) (by simp) ?_
        refine AllReadyH.cons (o := ?o6) ?hi6 (fun K hK => ?_) AllReadyH.nil
        case hi6 => (simp only [List.getElem?_toArray, List.getElem?_cons_zero, List.getElem?_cons_succ]; exact rfl)
        (go_simp; go_at_call 12; (with_reducible refine (CG.out _ b6.out).mono ?_); rintro e w7 ⟨A7, c7, rfl, o7, b7⟩; try dsimp only)
        refine hK.out _ _ ?_ (fun hHeld => ?_)
        · exact ⟨keep_cell b7.out hHeld.1, keep_cell b7.out hHeld.2.1, keep_cell b7.out hHeld.2.2.1, keep_cell b7.out hHeld.2.2.2⟩
        clear hK K
        try simp only [Act.put, List.setIfInBounds_toArray, List.set_cons_zero, List.set_cons_succ]
        have B7 := Lib.hid (b6.out.trans (b7.out.mono b6.out.size))
        have Z6 : Hid (Zs w7 w7.heap.size A6 R) := Lib.hid (o6.out.zs.on b7.out)
        have IN : Hid (Calls Try.prog 14 #[.slice A6 R.length c6, .slice A7 R.length c7] w7 (BoolG w7 true)) := Lib.hid (by
          have := ints_any A6 R c6 A7 R c7 (by omega) (by omega) w7 Z6.out o7.out.zs
          rwa [sameI_refl] at this)
        clear b6 b7 o6 o7 Z6
        refine wpAnyH_ready (rs := [6]) (by kernel_rfl) (by simp) ?_
        refine AllReadyH.cons (o := ?o7) ?hi7 (fun K hK => ?_) AllReadyH.nil
        case hi7 => (simp only [List.getElem?_toArray, List.getElem?_cons_zero, List.getElem?_cons_succ]; exact rfl)
        (go_simp; go_at_call 14; (with_reducible refine IN.out.mono ?_); rintro e w8 ⟨rfl, b8⟩; try dsimp only)
        refine hK.out _ _ ?_ (fun hHeld => ?_)
        · exact ⟨keep_cell b8.out hHeld.1, keep_cell b8.out hHeld.2.1, keep_cell b8.out hHeld.2.2.1, keep_cell b8.out hHeld.2.2.2⟩
        clear hK K
        try simp only [Act.put, List.setIfInBounds_toArray, List.set_cons_zero, List.set_cons_succ]
        refine wpAnyH_take (i := 7) (oi := ?o8) (v := ?v8) ?hi8 (by kernel_rfl) (by kernel_rfl) (by kernel_rfl) ?hQ8 (Or.inl ⟨?hg8, ?hy8⟩) (by assumption) ?rest8
        case hi8 => (simp only [List.getElem?_toArray, List.getElem?_cons_zero, List.getElem?_cons_succ]; exact rfl)
        case hQ8 => exact fun _ _ _ h => h
        case hg8 => rfl
        case hy8 => (intro w' hSw; (try dsimp only at hSw); go_simp; try with_reducible rfl)
        try simp only [Act.put, List.setIfInBounds_toArray, List.set_cons_zero, List.set_cons_succ]
        refine wpAnyH_done (by kernel_rfl) ?_ _
        have B8 : Hid (Below W6.heap.size W6 w8) := Lib.hid ((HB.out.drew.trans (B7.out.mono HB.out.drew.size)).trans (b8.out.mono (Nat.le_trans HB.out.drew.size B7.out.size)))
        clear IN CF CG S0 hHeld
        go_wp2
        go_roundw
        case rel => exact ⟨k + 1, by omega, by go_num, B8⟩
        case measure => simp [intOf]; omega
      · obtain rfl : N = k := by omega
        obtain ⟨wq, rfl⟩ : ∃ wq, wq = wr := ⟨_, rfl⟩
        have hl' : (l : Int) ≤ 60 := by omega
        go_wp2_with fail
        (with_reducible refine (SF.out _ D6.out).mono ?_); rintro e w8 ⟨A8, c8, rfl, o8, b8⟩
        rw [F4.out]
        have P8 : Hid (w8.heap[w.heap.size]? = some (.cells #[.int .i64 (N : Int), .slice A l cap] 25 (0, 0))) := Lib.hid ((b8.out.block _ (lt_of_block PR.out)).trans PR.out)
        have X8 : Hid (w8.heap[X]? = some (.cells #[.int .i64 (N : Int), .slice A5 l2 c5] 25 (0, 0))) := Lib.hid ((b8.out.block _ (lt_of_block XR.out)).trans XR.out)
        have B8 : Hid (Below w.heap.size w w8) := Lib.hid ((B5.out.trans (D6.out.mono B5.out.size)).trans (b8.out.mono (Nat.le_trans B5.out.size D6.out.size)))
        clear b8 o8 x0 x1 z0 z1
        have C9 : Hid (Below w8.heap.size w8 (w8.alloc (.cells #[.int .i64 (N : Int), .slice A8 l2 c8] 25))) := Lib.hid ((Below.refl _ _).alloc (Nat.le_refl _) _)
        obtain ⟨⟨x0, x1⟩, -⟩ := obG ((C9.out.block _ (lt_of_block P8.out)).trans P8.out)
        obtain ⟨⟨z0, z1⟩, -⟩ := obG ((C9.out.block _ (lt_of_block X8.out)).trans X8.out)
        have f2' : (l2 : Int) ≤ (l : Int) := by omega
        go_wp2
        go_ret
        exact ⟨by simp, Lib.hid (B8.out.trans (C9.out.mono B8.out.size))⟩
end Go.Proofs.Ytiapacbbfgihdaa
