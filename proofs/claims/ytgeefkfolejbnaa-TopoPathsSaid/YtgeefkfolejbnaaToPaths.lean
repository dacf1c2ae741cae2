/-
  The law TopoPaths walked.
-/
import Derived.Test.YtgeefkfolejbnaaToAwake
namespace Go.Proofs.Ytgeefkfolejbnaa
open Go.RowKit
theorem To.sm_take (f : Nat → Nat) (l : List Nat) (k : Nat) : To.sm f (l.take k) ≤ To.sm f l := by
  induction l generalizing k with
  | nil => simp [To.sm]
  | cons a r ih =>
    cases k with
    | zero => exact Nat.zero_le _
    | succ k =>
      have := ih k
      show f a + To.sm f (r.take k) ≤ f a + To.sm f r
      omega
theorem contains_snoc (l : List Nat) (a b : Nat) : (l ++ [a]).contains b = (l.contains b || (a == b)) := by
  rw [Bool.eq_iff_iff, Bool.or_eq_true, List.contains_iff_mem, List.contains_iff_mem, List.mem_append, beq_iff_eq, List.mem_singleton]
  exact or_congr Iff.rfl ⟨Eq.symm, Eq.symm⟩
set_option maxRecDepth 100000 in
set_option maxHeartbeats 8000000 in
theorem paths_walk (A : Option Addr) (es : List (Int × Int)) (cap : Nat) (n a b : Int) (w : World) (hl : es.length ≤ 9223372036854775807) (_hcap : es.length ≤ cap) (h : Edg w w.heap.size A es) (a0 : -9223372036854775808 ≤ a) (a1 : a ≤ 9223372036854775807) (b0 : -9223372036854775808 ≤ b) (b1 : b ≤ 9223372036854775807) :
    Calls Try.prog 6 #[.agg #[.int .i64 n, .slice A es.length cap], .int .i64 a, .int .i64 b] w (BoolG w true) := by
  have AW : Hid (∀ W, Calls Try.prog 8 #[] W (BoolG W true)) := Lib.hid awake_any
  have PE : Hid (∀ W x, inI x → Below w.heap.size w W → Calls Try.prog 11 #[.agg #[.int .i64 n, .slice A es.length cap], .int .i64 x, .int .i64 b] W (NumG W (To.pathsI n es x b))) := Lib.hid fun W x hx hW => paths_any n A es cap x b hx ⟨b0, b1⟩ hl W (h.on hW)
  have BE : Hid (∀ W (x : Int), Below w.heap.size w W → Calls Try.prog 24 #[.agg #[.int .i64 n, .slice A es.length cap], .int .i64 x] W (ListG W (Gr.behindI n es x))) := Lib.hid fun W x hW => behind_any n A es cap x hl W (h.on hW)
  have RE : Hid (∀ W (x : Int), inI x → Below w.heap.size w W → Calls Try.prog 25 #[.agg #[.int .i64 n, .slice A es.length cap], .int .i64 x] W (ListG W (Gr.reachI n es x))) := Lib.hid fun W x hx hW => reach_any n A es cap x hx hl W (h.on hW)
  have IA : Hid (inI a) := Lib.hid ⟨a0, a1⟩
  generalize es.length = l at *
  obtain ⟨W1, hW1⟩ : ∃ W1, W1 = w.alloc (.cells #[.int .i64 n, .slice A l cap] 27) := ⟨_, rfl⟩
  have P1 : Hid (W1.heap[w.heap.size]? = some (.cells #[.int .i64 n, .slice A l cap] 27 (0, 0))) := Lib.hid (by rw [hW1]; exact heap_alloc_new ..)
  have B1 : Hid (Below w.heap.size w W1) := Lib.hid (by rw [hW1]; exact (Below.refl _ _).alloc (Nat.le_refl _) _)
  have PX : Hid (∀ W, Below W1.heap.size W1 W → (W.cell? ⟨w.heap.size, 0, none⟩ = some (.int .i64 n) ∧ W.cell? ⟨w.heap.size, 1, none⟩ = some (.slice A l cap)) ∧ Below w.heap.size w W) := Lib.hid fun W hW =>
    ⟨(obG ((hW.block _ (lt_of_block P1.out)).trans P1.out)).1, B1.out.trans (hW.mono B1.out.size)⟩
  clear h hl _hcap
  go_enter Try.func6, Try.ntmps6
  go_wp2_with fail
  rw [← hW1]
  clear hW1
  (with_reducible refine (AW.out _).mono ?_); rintro e w2 ⟨rfl, b2⟩
  have D2 := Lib.hid b2.out
  clear b2
  obtain ⟨⟨x0, x1⟩, BB⟩ := PX.out _ D2.out
  have BB := Lib.hid BB
  cases hp : To.pathsI n es a b with
  | none =>
    have Q1 : Hid (Calls Try.prog 11 #[.agg #[.int .i64 n, .slice A l cap], .int .i64 a, .int .i64 b] w2 (NumN w2)) := Lib.hid ((PE.out w2 a IA.out BB.out).mono fun e w' h => by rw [hp] at h; exact h.no)
    clear hp
    go_wp2_with fail
    (with_reducible refine Q1.out.mono ?_); rintro e w3 ⟨rfl, b3⟩
    have D3 : Hid (Below W1.heap.size W1 w3) := Lib.hid (D2.out.trans (b3.out.mono D2.out.size))
    clear x0 x1 BB b3
    obtain ⟨⟨x0, x1⟩, BB⟩ := PX.out _ D3.out
    have BB := Lib.hid BB
    by_cases h60 : 60 < l
    · have h60' : (60 : Int) < (l : Int) := by omega
      go_wp2
      go_ret
      exact ⟨rfl, BB⟩
    · have h60' : (l : Int) ≤ 60 := by omega
      clear h60
      go_wp2
      go_ret
      exact ⟨rfl, BB⟩
  | some P =>
    have Q1 : Hid (Calls Try.prog 11 #[.agg #[.int .i64 n, .slice A l cap], .int .i64 a, .int .i64 b] w2 (NumY w2 P)) := Lib.hid ((PE.out w2 a IA.out BB.out).mono fun e w' h => by rw [hp] at h; exact h.yes)
    obtain ⟨ho, hr, hP⟩ := To.pathsI_some hp
    clear hp
    obtain ⟨hG, hT⟩ := To.okI_iff.1 ho
    obtain ⟨N, hN⟩ : ∃ N : Nat, n = (N : Int) := ⟨n.toNat, by have := hG.n0; omega⟩
    have hN16 : N ≤ 16 := by have := hG.n16; omega
    subst hN
    obtain ⟨an, han⟩ : ∃ an : Nat, a = (an : Int) := ⟨a.toNat, by omega⟩
    obtain ⟨bn, hbn⟩ : ∃ bn : Nat, b = (bn : Int) := ⟨b.toNat, by omega⟩
    subst han hbn
    have haN : an < N := by omega
    have hbN : bn < N := by omega
    rw [Int.toNat_natCast, Int.toNat_natCast, Int.toNat_natCast] at hP
    have hlow := hG.low
    rw [Int.toNat_natCast] at hlow
    have hP60 : P ≤ 1152921504606846976 := by rw [hP]; exact To.paths_le hlow hT hN16
    have PC : Hid (∀ W c, c < N → Below w.heap.size w W → Calls Try.prog 11 #[.agg #[.int .i64 (N : Int), .slice A l cap], .int .i64 (c : Nat), .int .i64 (bn : Int)] W (NumY W (To.pathsV (Gr.nat es) N c bn))) := Lib.hid fun W c hc hW =>
      (PE.out W (c : Int) ⟨by omega, by omega⟩ hW).mono fun e w' h => by
        rw [To.pathsI_yes ho ⟨by omega, by omega, by omega, by omega⟩, Int.toNat_natCast, Int.toNat_natCast, Int.toNat_natCast] at h
        exact h.yes
    have GH := Lib.hid hG
    have TH := Lib.hid hT
    have LW := Lib.hid hlow
    have HP := Lib.hid hP
    clear ho hG hT hlow hP hr PE a0 a1 b0 b1
    go_wp2_with fail
    (with_reducible refine Q1.out.mono ?_); rintro e w3 ⟨rfl, b3⟩
    have D3 : Hid (Below W1.heap.size W1 w3) := Lib.hid (D2.out.trans (b3.out.mono D2.out.size))
    clear x0 x1 BB b3 Q1
    obtain ⟨⟨x0, x1⟩, BB⟩ := PX.out _ D3.out
    have BB := Lib.hid BB
    by_cases h60 : 60 < l
    · have h60' : (60 : Int) < (l : Int) := by omega
      go_wp2
      go_ret
      exact ⟨rfl, BB⟩
    have h60' : (l : Int) ≤ 60 := by omega
    clear h60
    by_cases hab : an = bn
    · subst hab
      go_wp2
      go_ret
      exact ⟨rfl, BB⟩
    have hd1 : ((an : Int) == (bn : Int)) = false := by rw [beq_eq_false_iff_ne]; omega
    have hd2 : (an == bn) = false := by rw [beq_eq_false_iff_ne]; exact hab
    obtain ⟨bv, hbv⟩ : ∃ bv, bv = Gr.behindV (Gr.nat es) N an := ⟨_, rfl⟩
    obtain ⟨lz, hlz⟩ : ∃ lz, lz = bv.length := ⟨_, rfl⟩
    have B1' : Hid (Calls Try.prog 24 #[.agg #[.int .i64 (N : Int), .slice A l cap], .int .i64 (an : Int)] w3 (ListG w3 (Gr.ints bv))) := Lib.hid (by
      have := BE.out w3 (an : Int) BB.out
      rwa [Gr.behindI_eq GH.out, ← hbv] at this)
    have HS : Hid (P = To.sm (fun c => To.pathsV (Gr.nat es) N c bn) bv) := Lib.hid (by
      rw [HP.out, To.paths_head LW.out TH.out (by omega), if_neg hab, Nat.zero_add, ← hbv])
    have AK : Hid (∀ c ∈ bv, c < N) := Lib.hid fun c hc => by rw [hbv] at hc; exact (LW.out _ ((Gr.mem_behind LW.out).1 hc)).2
    have h16 : lz ≤ 16 := by rw [hlz, hbv]; exact Nat.le_trans (To.behind_len _ _ _) hN16
    have LZ := Lib.hid hlz
    have HAB := Lib.hid hab
    clear hbv hlz hab
    go_wp2_with fail
    (with_reducible refine B1'.out.mono ?_); rintro e w4 ⟨A4, c4, rfl, o4, b4⟩
    rw [Gr.ints_len, ← LZ.out]
    have Z4 : Hid (Zs w4 w4.heap.size A4 (Gr.ints bv)) := Lib.hid o4.out.zs
    have D4 : Hid (Below W1.heap.size W1 w4) := Lib.hid (D3.out.trans (b4.out.mono D3.out.size))
    clear o4 b4 B1' x0 x1 BB hd1 hd2
    go_wp2_with fail
    generalize decide ((60 : Int) < (l : Int)) = t0
    generalize decide (60 < l) = t1
    go_loopw [10, 11] (fun mv iv wr => ∃ (k s : Nat), k ≤ lz ∧ iv = .int .i64 k ∧ mv = .int .u64 (s : Int) ∧ Hid (s = To.sm (fun c => To.pathsV (Gr.nat es) N c bn) (bv.take k)) ∧ Hid (Below w4.heap.size w4 wr)) (fun _ iv _ => lz - (intOf iv).toNat)
    case atStart => exact ⟨0, 0, Nat.zero_le _, rfl, rfl, Lib.hid rfl, Lib.hid (Below.refl _ _)⟩
    case round =>
      obtain ⟨k, s, hk, rfl, rfl, HSk, HB⟩ := hrel
      have D5 : Hid (Below W1.heap.size W1 wr) := Lib.hid (D4.out.trans (HB.out.mono D4.out.size))
      obtain ⟨⟨x0, x1⟩, BB⟩ := PX.out _ D5.out
      have BB := Lib.hid BB
      by_cases hlt : k < lz
      · have hlt' : (k : Int) < (lz : Int) := by omega
        have hka : k < bv.length := by rw [← LZ.out]; exact hlt
        obtain ⟨b4, o4, y, rfl, hb4, hc4, hy, hy0, hy1⟩ := (Z4.out.below HB.out).at_ (k := k) (by rw [Gr.ints_len]; exact hka)
        obtain ⟨c, hc⟩ : ∃ c, c = bv.getD k 0 := ⟨_, rfl⟩
        obtain rfl : y = (c : Int) := by rw [← hy.out, Gr.ints_get, hc]
        have hcN : c < N := AK.out c (by rw [hc]; exact getD_mem hka)
        have PD : Hid (Below W1.heap.size W1 wr.drew) := Lib.hid D5.out.drew
        have P3 : Hid (Calls Try.prog 11 #[.agg #[.int .i64 (N : Int), .slice A l cap], .int .i64 (c : Int), .int .i64 (bn : Int)] wr.drew (NumY wr.drew (To.pathsV (Gr.nat es) N c bn))) := Lib.hid (PC.out _ c hcN (PX.out _ PD.out).2)
        have NX : To.sm (fun c => To.pathsV (Gr.nat es) N c bn) (bv.take (k + 1)) = s + To.pathsV (Gr.nat es) N c bn := by rw [take_getD hka hc.symm, To.sm_snoc, HSk.out]
        have NL : s + To.pathsV (Gr.nat es) N c bn ≤ P := by rw [← NX, HS.out]; exact To.sm_take _ _ _
        obtain ⟨q, hq⟩ : ∃ q, q = To.pathsV (Gr.nat es) N c bn := ⟨_, rfl⟩
        rw [← hq] at P3 NX NL
        have NXH := Lib.hid NX
        have hw : IntKind.u64.wrap ((s : Int) + (q : Int)) = ((s + q : Nat) : Int) := by
          rw [← Int.natCast_add]
          exact IntWalk.u64_in _ (by omega)
        have S0 := Lib.hid (And.intro x0 (And.intro x1 hc4))
        have C4 : Hid (∀ W, Below wr.drew.heap.size wr.drew W → W.cell? ⟨b4, o4 + k, none⟩ = some (.int .i64 (c : Int))) := Lib.hid fun W hW => (hW.cell (p := ⟨b4, o4 + k, none⟩) (Nat.lt_of_lt_of_le hb4.out HB.out.size)).trans hc4
        clear hy hy0 hy1 hc hq NX HSk
        go_wp2_with fail
        go_region_held3 (fun w' => w'.cell? ⟨w.heap.size, 0, none⟩ = some (.int .i64 (N : Int)) ∧ w'.cell? ⟨w.heap.size, 1, none⟩ = some (.slice A l cap) ∧ w'.cell? ⟨b4, o4 + k, none⟩ = some (.int .i64 (c : Int))) ((first | exact S0.out | exact S5.out | go_keep))
          (first
            | (go_simp; go_at_call 11; (with_reducible refine P3.out.mono ?_); rintro e w5 ⟨rfl, b5⟩; have B5 : Hid (Below wr.drew.heap.size wr.drew w5) := Lib.hid b5.out; have S5 := Lib.hid (And.intro (PX.out _ (PD.out.trans (B5.out.mono PD.out.size))).1.1 (And.intro (PX.out _ (PD.out.trans (B5.out.mono PD.out.size))).1.2 (C4.out _ B5.out))); clear b5))
        clear S0 S5 C4 P3 x0 x1 hc4
        go_wp2
        go_roundw
        case rel => exact ⟨k + 1, s + q, by omega, by go_num, by first | rfl | (rw [hw]), Lib.hid NXH.out.symm, Lib.hid (HB.out.drew.trans (B5.out.mono HB.out.size))⟩
        case measure => simp [intOf]; omega
      · obtain rfl : lz = k := by omega
        obtain rfl : P = s := by rw [HS.out, HSk.out, LZ.out, List.take_length]
        obtain ⟨rv, hrv⟩ : ∃ rv, rv = Gr.reachV (Gr.nat es) N an := ⟨_, rfl⟩
        obtain ⟨lr, hlr⟩ : ∃ lr, lr = rv.length := ⟨_, rfl⟩
        have R1 : Hid (Calls Try.prog 25 #[.agg #[.int .i64 (N : Int), .slice A l cap], .int .i64 (an : Int)] wr (ListG wr (Gr.ints rv))) := Lib.hid (by
          have := RE.out wr (an : Int) ⟨by omega, by omega⟩ BB.out
          rwa [Gr.reachI_eq GH.out, ← hrv] at this)
        have hr16 : lr ≤ 16 := by
          rw [hlr, hrv]
          have := List.length_filter_le (fun b => decide (0 ≤ Gr.dist (Gr.nat es) N an b)) (List.range N)
          rw [List.length_range] at this
          exact Nat.le_trans this hN16
        have PP : Hid (rv.contains bn = decide (0 < P)) := Lib.hid (by
          rw [Bool.eq_iff_iff, List.contains_iff_mem, decide_eq_true_eq, HP.out, To.paths_pos LW.out TH.out HAB.out, hrv])
        have LR := Lib.hid hlr
        clear hrv hlr
        go_wp2_with fail
        (with_reducible refine R1.out.mono ?_); rintro e w6 ⟨A6, c6, rfl, o6, b6⟩
        rw [Gr.ints_len, ← LR.out]
        have Z6 : Hid (Zs w6 w6.heap.size A6 (Gr.ints rv)) := Lib.hid o6.out.zs
        have B6 : Hid (Below w.heap.size w w6) := Lib.hid (BB.out.trans (b6.out.mono BB.out.size))
        clear o6 b6 R1 x0 x1
        go_wp2_with fail
        go_loopw [15, 16] (fun tv iv wk => ∃ k : Nat, k ≤ lr ∧ iv = .int .i64 k ∧ tv = .bool ((rv.take k).contains bn) ∧ wk = w6) (fun _ iv _ => lr - (intOf iv).toNat)
        case atStart => exact ⟨0, Nat.zero_le _, rfl, rfl, rfl⟩
        case round =>
          obtain ⟨k, hk, rfl, rfl, rfl⟩ := hrel
          by_cases hlt : k < lr
          · have hlt' : (k : Int) < (lr : Int) := by omega
            have hka : k < rv.length := by rw [← LR.out]; exact hlt
            obtain ⟨b6, o6, y, rfl, hb6, hc6, hy, hy0, hy1⟩ := (Z6.out).at_ (k := k) (by rw [Gr.ints_len]; exact hka)
            obtain ⟨c, hc⟩ : ∃ c, c = rv.getD k 0 := ⟨_, rfl⟩
            obtain rfl : y = (c : Int) := by rw [← hy.out, Gr.ints_get, hc]
            have NX : (rv.take (k + 1)).contains bn = ((rv.take k).contains bn || (c == bn)) := by rw [take_getD hka hc.symm, contains_snoc]
            have NXH := Lib.hid NX
            clear hy hc NX
            cases ht : (rv.take k).contains bn with
            | true =>
              have N1 : Hid ((rv.take (k + 1)).contains bn = true) := Lib.hid (by rw [NXH.out, ht]; rfl)
              clear ht NXH
              go_wp2
              go_roundw
              case rel => exact ⟨k + 1, by omega, by go_num, by rw [N1.out], trivial⟩
              case measure => simp [intOf]; omega
            | false =>
              by_cases hcb : c = bn
              · have N1 : Hid ((rv.take (k + 1)).contains bn = true) := Lib.hid (by rw [NXH.out, hcb]; simp)
                have hd : ((c : Int) == (bn : Int)) = true := by rw [beq_iff_eq]; omega
                have hd3 : (c == bn) = true := by rw [beq_iff_eq]; exact hcb
                clear ht NXH hcb
                go_wp2
                go_roundw
                case rel => exact ⟨k + 1, by omega, by go_num, by rw [N1.out], trivial⟩
                case measure => simp [intOf]; omega
              · have N1 : Hid ((rv.take (k + 1)).contains bn = false) := Lib.hid (by rw [NXH.out, ht, beq_eq_false_iff_ne.2 hcb]; rfl)
                have hd : ((c : Int) == (bn : Int)) = false := by rw [beq_eq_false_iff_ne]; omega
                have hd3 : (c == bn) = false := by rw [beq_eq_false_iff_ne]; exact hcb
                clear ht NXH hcb
                go_wp2
                go_roundw
                case rel => exact ⟨k + 1, by omega, by go_num, by rw [N1.out], trivial⟩
                case measure => simp [intOf]; omega
          · obtain rfl : lr = k := by omega
            have PT : Hid ((rv.take lr).contains bn = decide (0 < P)) := Lib.hid (by rw [LR.out, List.take_length]; exact PP.out)
            generalize (rv.take lr).contains bn = tb at *
            by_cases hp0 : 0 < P
            · obtain rfl : tb = true := by rw [PT.out, decide_eq_true hp0]
              have hp0' : (0 : Int) < (P : Int) := by omega
              clear PT
              go_wp2
              go_ret
              exact ⟨rfl, B6⟩
            · obtain rfl : tb = false := by rw [PT.out, decide_eq_false hp0]
              obtain rfl : P = 0 := by omega
              clear PT
              go_wp2
              go_ret
              exact ⟨rfl, B6⟩
end Go.Proofs.Ytgeefkfolejbnaa
