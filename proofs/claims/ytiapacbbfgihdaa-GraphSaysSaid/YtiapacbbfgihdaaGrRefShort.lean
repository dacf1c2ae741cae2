/-
  The reference: Short at every graph.
-/
import Derived.Test.YtiapacbbfgihdaaGrRefCycle
import Derived.Test.YtiapacbbfgihdaaGrOwn
import Derived.Test.YtiapacbbfgihdaaGrShort
namespace Go.Proofs.Ytiapacbbfgihdaa
open Go.RowKit
/-- Another way from x to y, by way of c. -/
def Gr.othP (es : Gr.EI) (N : Nat) (x y : Int) (c : Nat) : Bool := !((c : Int) == y) && (es.contains (x, (c : Int)) && decide (0 < (Gr.stepsV es N c).getD y.toNat 0))
def Gr.othK (es : Gr.EI) (N : Nat) (x y : Int) (k : Nat) : Bool := (List.range k).any (Gr.othP es N x y)
theorem Gr.othK_next (es : Gr.EI) (N : Nat) (x y : Int) (k : Nat) : Gr.othK es N x y (k + 1) = (Gr.othK es N x y k || Gr.othP es N x y k) := by
  unfold Gr.othK
  rw [List.range_succ, List.any_append]
  simp
theorem Gr.othK_keep {es : Gr.EI} {N : Nat} (h : Gr.Good N es) (ht : Gr.Tree (Gr.nat es)) {x y : Nat} (he : ((x : Int), (y : Int)) ∈ es) : Gr.keepI N es ((x : Int), (y : Int)) = !Gr.othK es N x y N := by
  rw [h.keep_int ht _ he]
  unfold Gr.othK
  rw [Int.toNat_natCast]
  congr 1
  have hy : y < N := by have := h.edge _ he; simp only at this; omega
  rw [Bool.eq_iff_iff, List.any_eq_true, List.any_eq_true]
  have e : ∀ c ∈ List.range N, (!(c == ((x : Int), (y : Int)).2.toNat) && (Gr.nat es).contains (((x : Int), (y : Int)).1.toNat, c) && decide (0 < Gr.dist (Gr.nat es) N c ((x : Int), (y : Int)).2.toNat)) = Gr.othP es N x y c := fun c hc => by
    unfold Gr.othP
    have e3 := Gr.stepsV_get h c y hy
    simp only [Int.toNat_natCast, e3]
    have e1 : (Gr.nat es).contains (x, c) = es.contains ((x : Int), (c : Int)) := by
      rw [Bool.eq_iff_iff, List.contains_iff_mem, List.contains_iff_mem, h.mem]
    have e2 : (c == y) = ((c : Int) == (y : Int)) := by
      rw [Bool.eq_iff_iff, beq_iff_eq, beq_iff_eq]; omega
    rw [e1, e2, Bool.and_assoc]
  constructor
  · rintro ⟨c, hc, h2⟩
    exact ⟨c, hc, by rw [← e c hc]; exact h2⟩
  · rintro ⟨c, hc, h2⟩
    exact ⟨c, hc, by rw [e c hc]; exact h2⟩
set_option maxHeartbeats 16000000 in
theorem refShort_any (n : Int) (A : Option Addr) (es : Gr.EI) (cap : Nat) (hl : es.length ≤ 100000) (w : World) (h : Edg w w.heap.size A es) :
    Calls Try.prog 18 #[.agg #[.int .i64 n, .slice A es.length cap]] w (RefPost w n (Gr.shortI n es)) := by
  have H := Lib.hid h
  have GD : Hid (∀ W, Below w.heap.size w W → Calls Try.prog 19 #[.agg #[.int .i64 n, .slice A es.length cap]] W (BoolG W (Gr.goodV n es))) := Lib.hid fun W hW => refGood_any n A es cap (by omega) W (h.on hW)
  have CY : Hid (∀ W, Below w.heap.size w W → Calls Try.prog 20 #[.agg #[.int .i64 n, .slice A es.length cap]] W (ListG W (Gr.cycleI n es))) := Lib.hid fun W hW => refCycle_any n A es cap hl W (h.on hW)
  have SP : Hid (∀ W, Below w.heap.size w W → ∀ (N a : Nat), n = (N : Int) → a < N → Gr.Good n es → Calls Try.prog 33 #[.agg #[.int .i64 n, .slice A es.length cap], .int .i64 (a : Int)] W (ListG W (Gr.stepsV es N a))) := Lib.hid fun W hW N a e ha hg => by
    subst e
    exact refSteps_any N A es cap a ha hl hg W (h.on hW)
  have HS : Hid (∀ W (a c : Int), Below w.heap.size w W → Calls Try.prog 32 #[.agg #[.int .i64 n, .slice A es.length cap], .int .i64 a, .int .i64 c] W (BoolG W (es.contains (a, c)))) := Lib.hid fun W a c hW => refHas_any n A es cap a c (by omega) W (h.on hW)
  obtain ⟨l, hlen⟩ : ∃ l, l = es.length := ⟨_, rfl⟩
  have HN := Lib.hid hlen
  rw [← hlen] at GD CY SP HS hl ⊢
  have FL : Hid (∀ k p, ((es.take k).filter p).length ≤ 100000) := Lib.hid fun k p => Nat.le_trans (Gr.filter_len p) (by rw [← hlen]; exact hl)
  clear h hlen
  obtain ⟨W1, hW1⟩ : ∃ W1, W1 = (w.alloc (.cells #[.int .i64 n, .slice A l cap] 38)).alloc (.cells #[.int .i64 0, .slice none 0 0] 38) := ⟨_, rfl⟩
  have B1 : Hid (Below w.heap.size w W1) := Lib.hid (by rw [hW1]; exact ((Below.refl _ _).alloc (Nat.le_refl _) _).alloc (by simp) _)
  have P1 : Hid (W1.heap[w.heap.size]? = some (.cells #[.int .i64 n, .slice A l cap] 38 (0, 0))) := Lib.hid (by rw [hW1, Below.heap_alloc _ _ _ (by simp)]; exact heap_alloc_new ..)
  have R1 : Hid (W1.heap[w.heap.size + 1]? = some (.cells #[.int .i64 0, .slice none 0 0] 38 (0, 0))) := Lib.hid (by rw [hW1]; have := heap_alloc_new (w.alloc (.cells #[.int .i64 n, .slice A l cap] 38)) (.cells #[.int .i64 0, .slice none 0 0] 38); rw [World.size_alloc] at this; exact this)
  obtain ⟨⟨x0, x1⟩, -⟩ := obG P1.out
  cases hg : Gr.goodV n es with
  | false =>
    rw [hg] at GD
    have E : Hid (Gr.shortI n es = es) := Lib.hid (Gr.shortI_bad hg)
    clear hg
    go_enter Try.func18, Try.ntmps18
    go_wp2_with fail
    rw [← hW1]
    clear hW1
    go_wp2_with fail
    (with_reducible refine (GD.out _ B1.out).mono ?_); rintro e w2 ⟨rfl, b2⟩
    have P2 : Hid (w2.heap[w.heap.size]? = some (.cells #[.int .i64 n, .slice A l cap] 38 (0, 0))) := Lib.hid ((b2.out.block _ (lt_of_block P1.out)).trans P1.out)
    have R2 : Hid (w2.heap[w.heap.size + 1]? = some (.cells #[.int .i64 0, .slice none 0 0] 38 (0, 0))) := Lib.hid ((b2.out.block _ (lt_of_block R1.out)).trans R1.out)
    have B2 : Hid (Below w.heap.size w w2) := Lib.hid (B1.out.trans (b2.out.mono B1.out.size))
    obtain ⟨⟨y0, y1⟩, -⟩ := obG P2.out
    obtain ⟨⟨z0, z1⟩, z2, z3⟩ := obG R2.out
    clear b2
    go_wp2
    have BS : Below w.heap.size w ((w2.setCell ⟨w.heap.size + 1, 0, none⟩ (.int .i64 n)).setCell ⟨w.heap.size + 1, 1, none⟩ (.slice A l cap)) := (B2.out.setCell (p := ⟨w.heap.size + 1, 0, none⟩) (by simp) _).setCell (p := ⟨w.heap.size + 1, 1, none⟩) (by simp) _
    exact bodyPost_ret (v := .agg #[.int .i64 n, .slice A l cap]) (by simp [results, Try.results18, go_sem, z0, z1]) rfl
      ⟨A, cap, by rw [E.out, HN.out], Lib.hid (by rw [E.out]; exact H.out.on BS), Lib.hid BS⟩
  | true =>
    rw [hg] at GD
    have G := Gr.goodV_iff.1 hg
    obtain ⟨N, hN⟩ : ∃ N : Nat, n = (N : Int) := ⟨n.toNat, by have := G.n0; omega⟩
    have hN16 : N ≤ 16 := by have := G.n16; omega
    have SP2 : Hid (∀ W, Below w.heap.size w W → ∀ a : Nat, a < N → Calls Try.prog 33 #[.agg #[.int .i64 n, .slice A l cap], .int .i64 (a : Int)] W (ListG W (Gr.stepsV es N a))) := Lib.hid fun W hW a ha => SP.out W hW N a hN ha G
    subst hN
    have HG := Lib.hid G
    have CN := Lib.hid (Gr.cycleI_nil G)
    clear hg G SP
    go_enter Try.func18, Try.ntmps18
    go_wp2_with fail
    rw [← hW1]
    clear hW1
    go_wp2_with fail
    (with_reducible refine (GD.out _ B1.out).mono ?_); rintro e w2 ⟨rfl, b2⟩
    have P2 : Hid (w2.heap[w.heap.size]? = some (.cells #[.int .i64 (N : Int), .slice A l cap] 38 (0, 0))) := Lib.hid ((b2.out.block _ (lt_of_block P1.out)).trans P1.out)
    have R2 : Hid (w2.heap[w.heap.size + 1]? = some (.cells #[.int .i64 0, .slice none 0 0] 38 (0, 0))) := Lib.hid ((b2.out.block _ (lt_of_block R1.out)).trans R1.out)
    have B2 : Hid (Below w.heap.size w w2) := Lib.hid (B1.out.trans (b2.out.mono B1.out.size))
    obtain ⟨⟨y0, y1⟩, -⟩ := obG P2.out
    clear b2
    obtain ⟨L, hL⟩ : ∃ L, L = (Gr.cycleI N es).length := ⟨_, rfl⟩
    have HL := Lib.hid hL
    have LZ : Hid (L = 0 ↔ Gr.Tree (Gr.nat es)) := Lib.hid (by rw [hL, List.length_eq_zero_iff, ← CN.out, List.isEmpty_iff])
    clear hL
    by_cases hc0 : 0 < L
    · have E : Hid (Gr.shortI N es = es) := Lib.hid (Gr.shortI_cycle HG.out fun ht => by have := LZ.out.2 ht; omega)
      go_wp2_with fail
      (with_reducible refine (CY.out _ B2.out).mono ?_); rintro e w3 ⟨A3, c3, rfl, o3, b3⟩
      rw [← HL.out]
      have P3 : Hid (w3.heap[w.heap.size]? = some (.cells #[.int .i64 (N : Int), .slice A l cap] 38 (0, 0))) := Lib.hid ((b3.out.block _ (lt_of_block P2.out)).trans P2.out)
      have R3 : Hid (w3.heap[w.heap.size + 1]? = some (.cells #[.int .i64 0, .slice none 0 0] 38 (0, 0))) := Lib.hid ((b3.out.block _ (lt_of_block R2.out)).trans R2.out)
      have B3 : Hid (Below w.heap.size w w3) := Lib.hid (B2.out.trans (b3.out.mono B2.out.size))
      obtain ⟨⟨u0, u1⟩, -⟩ := obG P3.out
      obtain ⟨⟨z0, z1⟩, z2, z3⟩ := obG R3.out
      clear b3 o3
      go_wp2
      have BS : Below w.heap.size w ((w3.setCell ⟨w.heap.size + 1, 0, none⟩ (.int .i64 (N : Int))).setCell ⟨w.heap.size + 1, 1, none⟩ (.slice A l cap)) := (B3.out.setCell (p := ⟨w.heap.size + 1, 0, none⟩) (by simp) _).setCell (p := ⟨w.heap.size + 1, 1, none⟩) (by simp) _
      exact bodyPost_ret (v := .agg #[.int .i64 (N : Int), .slice A l cap]) (by simp [results, Try.results18, go_sem, z0, z1]) rfl
        ⟨A, cap, by rw [E.out, HN.out], Lib.hid (by rw [E.out]; exact H.out.on BS), Lib.hid BS⟩
    · have hL0 : L = 0 := by omega
      subst hL0
      have TR := Lib.hid (LZ.out.1 rfl)
      have E : Hid (Gr.shortI N es = es.filter (Gr.keepI N es)) := Lib.hid (Gr.shortI_tree HG.out TR.out)
      clear hc0
      go_wp2_with fail
      (with_reducible refine (CY.out _ B2.out).mono ?_); rintro e w3 ⟨A3, c3, rfl, o3, b3⟩
      rw [← HL.out]
      have P3 : Hid (w3.heap[w.heap.size]? = some (.cells #[.int .i64 (N : Int), .slice A l cap] 38 (0, 0))) := Lib.hid ((b3.out.block _ (lt_of_block P2.out)).trans P2.out)
      have R3 : Hid (w3.heap[w.heap.size + 1]? = some (.cells #[.int .i64 0, .slice none 0 0] 38 (0, 0))) := Lib.hid ((b3.out.block _ (lt_of_block R2.out)).trans R2.out)
      have B3 : Hid (Below w.heap.size w w3) := Lib.hid (B2.out.trans (b3.out.mono B2.out.size))
      obtain ⟨⟨u0, u1⟩, -⟩ := obG P3.out
      have hz : w.heap.size < w3.heap.size := lt_of_block P3.out
      clear b3 o3
      obtain ⟨X, hX⟩ : ∃ X, X = w3.heap.size := ⟨_, rfl⟩
      obtain ⟨W4, hW4⟩ : ∃ W4, W4 = w3.alloc (.cells #[.int .i64 (N : Int), .slice none 0 0] 38) := ⟨_, rfl⟩
      have P4 : Hid (W4.heap[w.heap.size]? = some (.cells #[.int .i64 (N : Int), .slice A l cap] 38 (0, 0))) := Lib.hid (by rw [hW4, Below.heap_alloc _ _ _ (lt_of_block P3.out)]; exact P3.out)
      have R4 : Hid (W4.heap[w.heap.size + 1]? = some (.cells #[.int .i64 0, .slice none 0 0] 38 (0, 0))) := Lib.hid (by rw [hW4, Below.heap_alloc _ _ _ (lt_of_block R3.out)]; exact R3.out)
      have X4 : Hid (W4.heap[X]? = some (.cells #[.int .i64 (N : Int), .slice none 0 0] 38 (0, 0))) := Lib.hid (by rw [hW4, hX]; exact heap_alloc_new ..)
      have B4 : Hid (Below w.heap.size w W4) := Lib.hid (by rw [hW4]; exact B3.out.alloc B3.out.size _)
      have hX2 : w.heap.size + 1 < X := by rw [hX]; exact lt_of_block R3.out
      go_wp2_with fail
      rw [← hW4, ← hX]
      clear hW4 hX hz u0 u1 y0 y1 x0 x1
      go_loopw [4] (fun iv wr => ∃ (k m : Nat) (A' : Option Addr) (cap' : Nat), k ≤ l ∧ iv = .int .i64 k ∧ Hid (m = ((es.take k).filter (Gr.keepI N es)).length) ∧ Hid (OwnE wr W4.heap.size 26 A' cap' ((es.take k).filter (Gr.keepI N es))) ∧ Hid (wr.heap[X]? = some (.cells #[.int .i64 (N : Int), .slice A' m cap'] 38 (0, 0))) ∧ Hid (But W4.heap.size X W4 wr)) (fun iv _ => l - (intOf iv).toNat)
      case atStart => exact ⟨0, 0, none, 0, Nat.zero_le _, rfl, Lib.hid (by simp), Lib.hid (by simpa using OwnE.none_ _ _ _), X4, Lib.hid (But.refl _ _ _)⟩
      case round =>
        obtain ⟨k, m, A', cap', hk, rfl, HM, HO, HX, HB⟩ := hrel
        have PR : Hid (wr.heap[w.heap.size]? = some (.cells #[.int .i64 (N : Int), .slice A l cap] 38 (0, 0))) := Lib.hid ((HB.out.block _ (lt_of_block P4.out) (by omega)).trans P4.out)
        have RR : Hid (wr.heap[w.heap.size + 1]? = some (.cells #[.int .i64 0, .slice none 0 0] 38 (0, 0))) := Lib.hid ((HB.out.block _ (lt_of_block R4.out) (by omega)).trans R4.out)
        have BW : Hid (Below w.heap.size w wr) := Lib.hid (B4.out.trans (HB.out.below B4.out.size (by omega)))
        obtain ⟨⟨p0, p1⟩, -⟩ := obG PR.out
        by_cases hlt : k < l
        · have hlt' : (k : Int) < (l : Int) := by omega
          obtain ⟨b, off, x, y, rfl, hb, hc0, hc1, he, hx, hy⟩ := (H.out.below BW.out).at_ (k := k) (by rw [← HN.out]; exact hlt)
          have HI := Lib.hid (show k < es.length by rw [← HN.out]; exact hlt)
          have hmem : (x, y) ∈ es := by
            have h1 := he.out
            rw [List.getD_eq_getElem?_getD, List.getElem?_eq_getElem HI.out] at h1
            have h2 : es[k]'HI.out = (x, y) := h1
            rw [← h2]; exact List.getElem_mem HI.out
          have hm := HG.out.edge (x, y) hmem
          simp only at hm
          obtain ⟨p, rfl⟩ : ∃ p : Nat, x = (p : Int) := ⟨x.toNat, by omega⟩
          obtain ⟨q, rfl⟩ : ∃ q : Nat, y = (q : Int) := ⟨y.toNat, by omega⟩
          have hq : q < N := by omega
          have KP := Lib.hid (Gr.othK_keep HG.out TR.out hmem)
          have FS := Lib.hid (Gr.filter_step (Gr.keepI N es) HI.out he.out)
          have IE : Hid (inE ((p : Int), (q : Int))) := Lib.hid ⟨hx, hy⟩
          clear hm hmem hx hy
          go_wp2_with fail
          go_quiet (fail)
          go_wp2_with fail
          clear p0 p1 hc0 hc1
          obtain ⟨wq, hwq⟩ : ∃ wq, wq = wr := ⟨_, rfl⟩
          rw [← hwq] at PR RR BW HO HX HB ⊢
          have BQ : Hid (Below wq.heap.size wq (wq.drewN nq)) := Lib.hid (below_n (Below.refl _ _) _)
          go_loopw [7, 8] (fun ov cv wk => ∃ c : Nat, c ≤ N ∧ cv = .int .i64 c ∧ ov = .bool (Gr.othK es N p q c) ∧ Hid (Below wq.heap.size wq wk)) (fun _ cv _ => N - (intOf cv).toNat)
          case atStart => exact ⟨0, Nat.zero_le _, rfl, rfl, BQ⟩
          case round =>
            obtain ⟨c, hc, rfl, rfl, HK⟩ := hrel
            have PK : Hid (wr.heap[w.heap.size]? = some (.cells #[.int .i64 (N : Int), .slice (some ⟨b, off, none⟩) l cap] 38 (0, 0))) := Lib.hid ((HK.out.block _ (lt_of_block PR.out)).trans PR.out)
            have BK : Hid (Below w.heap.size w wr) := Lib.hid (BW.out.trans (HK.out.mono BW.out.size))
            obtain ⟨⟨p0, p1⟩, -⟩ := obG PK.out
            by_cases hlc : c < N
            · have hlc' : (c : Int) < (N : Int) := by omega
              have OK := Lib.hid (Gr.othK_next es N p q c)
              have OP : Hid (Gr.othP es N p q c = (!((c : Int) == (q : Int)) && (es.contains ((p : Int), (c : Int)) && decide (0 < (Gr.stepsV es N c).getD q 0)))) := Lib.hid (by unfold Gr.othP; rw [Int.toNat_natCast])
              cases ho : Gr.othK es N p q c with
              | true =>
                have O1 : Hid (Gr.othK es N p q (c + 1) = true) := Lib.hid (by rw [OK.out, ho]; rfl)
                clear ho
                go_wp2
                go_roundw
                case rel => exact ⟨c + 1, by omega, by go_num, by rw [O1.out], HK⟩
                case measure => simp [intOf]; omega
              | false =>
                have O0 : Hid (Gr.othK es N p q (c + 1) = Gr.othP es N p q c) := Lib.hid (by rw [OK.out, ho, Bool.false_or])
                clear ho
                by_cases hcq : c = q
                · have O1 : Hid (Gr.othK es N p q (c + 1) = false) := Lib.hid (by rw [O0.out, OP.out, hcq]; simp)
                  have hd1 : ((c : Int) == (q : Int)) = true := by rw [hcq]; simp
                  have hd2 : ((c : Int) != (q : Int)) = false := by rw [hcq]; simp
                  go_wp2
                  go_roundw
                  case rel => exact ⟨c + 1, by omega, by go_num, by rw [O1.out], HK⟩
                  case measure => simp [intOf]; omega
                · have hd1 : ((c : Int) == (q : Int)) = false := by rw [beq_eq_false_iff_ne]; omega
                  have hd2 : ((c : Int) != (q : Int)) = true := by simp [bne, hd1]
                  have hd3 : (c == q) = false := by simpa using hcq
                  rw [hd1] at OP
                  cases hh : es.contains ((p : Int), (c : Int)) with
                  | false =>
                    have O1 : Hid (Gr.othK es N p q (c + 1) = false) := Lib.hid (by rw [O0.out, OP.out, hh]; rfl)
                    have HC := Lib.hid (HS.out wr p c BK.out)
                    rw [hh] at HC
                    clear hh
                    go_wp2_with fail
                    (with_reducible refine HC.out.mono ?_); rintro e w6 ⟨rfl, b6⟩
                    go_wp2
                    go_roundw
                    case rel => exact ⟨c + 1, by omega, by go_num, by rw [O1.out], Lib.hid (HK.out.trans (b6.out.mono HK.out.size))⟩
                    case measure => simp [intOf]; omega
                  | true =>
                    have HC := Lib.hid (HS.out wr p c BK.out)
                    have O1 : Hid (Gr.othK es N p q (c + 1) = decide (0 < (Gr.stepsV es N c).getD q 0)) := Lib.hid (by rw [O0.out, OP.out, hh]; rfl)
                    rw [hh] at HC
                    have SL := Lib.hid (Gr.stepsV_len HG.out N c rfl)
                    obtain ⟨z, hz⟩ : ∃ z, z = (Gr.stepsV es N c).getD q 0 := ⟨_, rfl⟩
                    have ZV : Hid ((Gr.stepsV es N c).getD q 0 = z) := Lib.hid hz.symm
                    rw [← hz] at O1
                    have hqN : (q : Int) < (N : Int) := by omega
                    clear hh hz
                    go_wp2_with fail
                    (with_reducible refine HC.out.mono ?_); rintro e w6 ⟨rfl, b6⟩
                    have P6 : Hid (w6.heap[w.heap.size]? = some (.cells #[.int .i64 (N : Int), .slice (some ⟨b, off, none⟩) l cap] 38 (0, 0))) := Lib.hid ((b6.out.block _ (lt_of_block PK.out)).trans PK.out)
                    have B6 : Hid (Below w.heap.size w w6) := Lib.hid (BK.out.trans (b6.out.mono BK.out.size))
                    have K6 : Hid (Below wq.heap.size wq w6) := Lib.hid (HK.out.trans (b6.out.mono HK.out.size))
                    obtain ⟨⟨r0, r1⟩, -⟩ := obG P6.out
                    clear b6
                    go_wp2_with fail
                    (with_reducible refine (SP2.out _ B6.out c hlc).mono ?_); rintro e w7 ⟨A7, c7, rfl, o7, b7⟩
                    obtain ⟨g7, hA7, _, _⟩ := o7.out.shape (by rw [SL.out]; omega)
                    subst hA7
                    have hv7 := o7.out.val (i := q) (by rw [SL.out]; exact hq)
                    rw [ZV.out] at hv7
                    rw [SL.out]
                    have K7 : Hid (Below wq.heap.size wq w7) := Lib.hid (K6.out.trans (b7.out.mono K6.out.size))
                    clear o7 b7
                    by_cases hz0 : 0 < z
                    · have O2 : Hid (Gr.othK es N p q (c + 1) = true) := Lib.hid (by rw [O1.out, decide_eq_true hz0])
                      go_wp2
                      go_roundw
                      case rel => exact ⟨c + 1, by omega, by go_num, by rw [O2.out], K7⟩
                      case measure => simp [intOf]; omega
                    · have O2 : Hid (Gr.othK es N p q (c + 1) = false) := Lib.hid (by rw [O1.out, decide_eq_false hz0])
                      have hz1 : z ≤ 0 := by omega
                      clear hz0
                      go_wp2
                      go_roundw
                      case rel => exact ⟨c + 1, by omega, by go_num, by rw [O1.out], K7⟩
                      case measure => simp [intOf]; omega
            · obtain rfl : N = c := by omega
              have XK : Hid (wr.heap[X]? = some (.cells #[.int .i64 (N : Int), .slice A' m cap'] 38 (0, 0))) := Lib.hid ((HK.out.block _ (lt_of_block HX.out)).trans HX.out)
              have OO : Hid (OwnE wr W4.heap.size 26 A' cap' ((es.take k).filter (Gr.keepI N es))) := Lib.hid (HO.out.grew HK.out (Nat.le_refl _))
              have BB : Hid (But W4.heap.size X W4 wr) := Lib.hid (HB.out.trans (But.of (HK.out.mono HB.out.size)))
              cases ho : Gr.othK es N p q N with
              | true =>
                have FK : Hid ((es.take (k + 1)).filter (Gr.keepI N es) = (es.take k).filter (Gr.keepI N es)) := Lib.hid (by rw [FS.out, KP.out, ho]; simp)
                clear ho
                go_wp2
                go_roundw
                case rel => exact ⟨k + 1, m, A', cap', by omega, by go_num, Lib.hid (by rw [FK.out]; exact HM.out), Lib.hid (by rw [FK.out]; exact OO.out), XK, BB⟩
                case measure => simp [intOf]; omega
              | false =>
                have FK : Hid ((es.take (k + 1)).filter (Gr.keepI N es) = (es.take k).filter (Gr.keepI N es) ++ [((p : Int), (q : Int))]) := Lib.hid (by rw [FS.out, KP.out, ho]; simp)
                clear ho
                obtain ⟨b1, off1, x', y', he1, hb2, hc0, hc1, he', _, _⟩ := (H.out.below BK.out).at_ (k := k) HI.out
                injection he1 with he1
                injection he1 with he1 he2
                subst he1 he2
                have hxy : (x', y') = ((p : Int), (q : Int)) := he'.out.symm.trans he.out
                injection hxy with hxx hyy
                subst hxx hyy
                obtain ⟨⟨q0, q1⟩, q2, q3⟩ := obG XK.out
                have LK : Hid (((es.take k).filter (Gr.keepI N es)).length ≤ 100000) := Lib.hid (FL.out k _)
                have OR : Hid (OwnE wr.drew W4.heap.size 26 A' cap' ((es.take k).filter (Gr.keepI N es))) := Lib.hid OO.out
                have NS : Hid (W4.heap.size ≤ wr.drew.heap.size) := Lib.hid BB.out.size
                have BA : Hid (Below wr.drew.heap.size wr.drew (wr.drew.alloc (.cells #[.int .i64 (p : Int), .int .i64 (q : Int)] 26))) := Lib.hid ((Below.refl _ _).alloc (Nat.le_refl _) _)
                have CA : Hid ((wr.drew.alloc (.cells #[.int .i64 (p : Int), .int .i64 (q : Int)] 26)).heap[wr.drew.heap.size]? = some (.cells #[.int .i64 (p : Int), .int .i64 (q : Int)] 26 (0, 0))) := Lib.hid (heap_alloc_new ..)
                have XB : Hid (X < W4.heap.size) := Lib.hid (lt_of_block X4.out)
                have S0 : Hid (wr.drew.cell? ⟨X, 1, none⟩ = some (.slice A' m cap') ∧ wr.drew.cell? ⟨w.heap.size, 1, none⟩ = some (.slice (some ⟨b, off, none⟩) l cap) ∧ wr.drew.cell? ⟨b, off + k * 2, none⟩ = some (.int .i64 (p : Int)) ∧ wr.drew.cell? ⟨b, off + k * 2 + 1, none⟩ = some (.int .i64 (q : Int))) := Lib.hid ⟨q1, p1, hc0, hc1⟩
                have SK : Hid (∀ W, Below wr.drew.heap.size wr.drew W → (W.cell? ⟨X, 1, none⟩ = some (.slice A' m cap') ∧ W.cell? ⟨w.heap.size, 1, none⟩ = some (.slice (some ⟨b, off, none⟩) l cap) ∧ W.cell? ⟨b, off + k * 2, none⟩ = some (.int .i64 (p : Int)) ∧ W.cell? ⟨b, off + k * 2 + 1, none⟩ = some (.int .i64 (q : Int)))) := Lib.hid fun W hW => by
                  have h1 := lt_of_block PK.out
                  have h2 := lt_of_block XK.out
                  have h3 := hb.out
                  exact ⟨(hW.cell (p := ⟨X, 1, none⟩) h2).trans S0.out.1, (hW.cell (p := ⟨w.heap.size, 1, none⟩) h1).trans S0.out.2.1, (hW.cell (p := ⟨b, _, none⟩) (Nat.lt_trans h3 h1)).trans S0.out.2.2.1, (hW.cell (p := ⟨b, _, none⟩) (Nat.lt_trans h3 h1)).trans S0.out.2.2.2⟩
                have SB : Hid (∀ W, Below W4.heap.size (wr.drew.alloc (.cells #[.int .i64 (p : Int), .int .i64 (q : Int)] 26)) W → W.cell? ⟨X, 1, none⟩ = some (.slice A' m cap') → (W.cell? ⟨X, 1, none⟩ = some (.slice A' m cap') ∧ W.cell? ⟨w.heap.size, 1, none⟩ = some (.slice (some ⟨b, off, none⟩) l cap) ∧ W.cell? ⟨b, off + k * 2, none⟩ = some (.int .i64 (p : Int)) ∧ W.cell? ⟨b, off + k * 2 + 1, none⟩ = some (.int .i64 (q : Int)))) := Lib.hid fun W hW hX1 => by
                  have h0 := SK.out _ BA.out
                  have h1 := lt_of_block P4.out
                  have h3 := hb.out
                  exact ⟨hX1, (hW.cell (p := ⟨w.heap.size, 1, none⟩) h1).trans h0.2.1, (hW.cell (p := ⟨b, _, none⟩) (Nat.lt_trans h3 h1)).trans h0.2.2.1, (hW.cell (p := ⟨b, _, none⟩) (Nat.lt_trans h3 h1)).trans h0.2.2.2⟩
                go_wp2_with fail
                refine wp_region_C (fun w' => w'.cell? ⟨X, 1, none⟩ = some (.slice A' m cap') ∧ w'.cell? ⟨w.heap.size, 1, none⟩ = some (.slice (some ⟨b, off, none⟩) l cap) ∧ w'.cell? ⟨b, off + k * 2, none⟩ = some (.int .i64 (p : Int)) ∧ w'.cell? ⟨b, off + k * 2 + 1, none⟩ = some (.int .i64 (q : Int))) 10 (by kernel_rfl) ?_
                have hS0 : (fun w' : World => w'.cell? ⟨X, 1, none⟩ = some (.slice A' m cap') ∧ w'.cell? ⟨w.heap.size, 1, none⟩ = some (.slice (some ⟨b, off, none⟩) l cap) ∧ w'.cell? ⟨b, off + k * 2, none⟩ = some (.int .i64 (p : Int)) ∧ w'.cell? ⟨b, off + k * 2 + 1, none⟩ = some (.int .i64 (q : Int))) wr.drew := ⟨q1, p1, hc0, hc1⟩
                refine wpAnyC_take (i := 0) (oi := ?o1) (v := ?v1) ?hi1 (by kernel_rfl) (by kernel_rfl) (by kernel_rfl) ?hQ1 (by kernel_rfl) (by decide) (by kernel_rfl) (Or.inl ⟨?hg1, ?hy1⟩) (by assumption) ?rest1
                case hi1 => (simp only [List.getElem?_toArray, List.getElem?_cons_zero]; exact rfl)
                case hQ1 => exact fun _ _ _ h => h
                case hg1 => rfl
                case hy1 => (intro w' hSw; (try dsimp only at hSw); go_simp; try with_reducible rfl)
                try simp only [Act.put, List.setIfInBounds_toArray, List.set_cons_zero, List.set_cons_succ]
                refine wpAnyC_take (i := 1) (oi := ?o2) (v := ?v2) ?hi2 (by kernel_rfl) (by kernel_rfl) (by kernel_rfl) ?hQ2 (by kernel_rfl) (by decide) (by kernel_rfl) (Or.inl ⟨?hg2, ?hy2⟩) (by assumption) ?rest2
                case hi2 => (simp only [List.getElem?_toArray, List.getElem?_cons_zero, List.getElem?_cons_succ]; exact rfl)
                case hQ2 => exact fun _ _ _ h => h
                case hg2 => rfl
                case hy2 => (intro w' hSw; (try dsimp only at hSw); go_simp; try with_reducible rfl)
                try simp only [Act.put, List.setIfInBounds_toArray, List.set_cons_zero, List.set_cons_succ]
                refine wpAnyC_take (i := 2) (oi := ?o3) (v := ?v3) ?hi3 (by kernel_rfl) (by kernel_rfl) (by kernel_rfl) ?hQ3 (by kernel_rfl) (by decide) (by kernel_rfl) (Or.inl ⟨?hg3, ?hy3⟩) (by assumption) ?rest3
                case hi3 => (simp only [List.getElem?_toArray, List.getElem?_cons_zero, List.getElem?_cons_succ]; exact rfl)
                case hQ3 => exact fun _ _ _ h => h
                case hg3 => rfl
                case hy3 => (intro w' hSw; (try dsimp only at hSw); go_simp; try with_reducible rfl)
                try simp only [Act.put, List.setIfInBounds_toArray, List.set_cons_zero, List.set_cons_succ]
                refine wpAnyC_take (i := 3) (oi := ?o4) (v := ?v4) ?hi4 (by kernel_rfl) (by kernel_rfl) (by kernel_rfl) ?hQ4 (by kernel_rfl) (by decide) (by kernel_rfl) (Or.inl ⟨?hg4, ?hy4⟩) (by assumption) ?rest4
                case hi4 => (simp only [List.getElem?_toArray, List.getElem?_cons_zero, List.getElem?_cons_succ]; exact rfl)
                case hQ4 => exact fun _ _ _ h => h
                case hg4 => rfl
                case hy4 => (intro w' hSw; (try dsimp only at hSw); go_simp; try with_reducible rfl)
                try simp only [Act.put, List.setIfInBounds_toArray, List.set_cons_zero, List.set_cons_succ]
                refine wpAnyC_take (i := 4) (oi := ?o5) (v := ?v5) ?hi5 (by kernel_rfl) (by kernel_rfl) (by kernel_rfl) ?hQ5 (by kernel_rfl) (by decide) (by kernel_rfl) (Or.inl ⟨?hg5, ?hy5⟩) (by assumption) ?rest5
                case hi5 => (simp only [List.getElem?_toArray, List.getElem?_cons_zero, List.getElem?_cons_succ]; exact rfl)
                case hQ5 => exact fun _ _ _ h => h
                case hg5 => rfl
                case hy5 => (intro w' hSw; (try dsimp only at hSw); go_simp; try with_reducible rfl)
                try simp only [Act.put, List.setIfInBounds_toArray, List.set_cons_zero, List.set_cons_succ]
                refine wpAnyC_take (i := 5) (oi := ?o6) (v := ?v6) ?hi6 (by kernel_rfl) (by kernel_rfl) (by kernel_rfl) ?hQ6 (by kernel_rfl) (by decide) (by kernel_rfl) (Or.inl ⟨?hg6, ?hy6⟩) (by assumption) ?rest6
                case hi6 => (simp only [List.getElem?_toArray, List.getElem?_cons_zero, List.getElem?_cons_succ]; exact rfl)
                case hQ6 => exact fun _ _ _ h => h
                case hg6 => rfl
                case hy6 => (intro w' hSw; (try dsimp only at hSw); go_simp; try with_reducible rfl)
                try simp only [Act.put, List.setIfInBounds_toArray, List.set_cons_zero, List.set_cons_succ]
                refine wpAnyC_take (i := 6) (oi := ?o7) (v := ?v7) ?hi7 (by kernel_rfl) (by kernel_rfl) (by kernel_rfl) ?hQ7 (by kernel_rfl) (by decide) (by kernel_rfl) (Or.inl ⟨?hg7, ?hy7⟩) (by assumption) ?rest7
                case hi7 => (simp only [List.getElem?_toArray, List.getElem?_cons_zero, List.getElem?_cons_succ]; exact rfl)
                case hQ7 => exact fun _ _ _ h => h
                case hg7 => rfl
                case hy7 => (intro w' hSw; (try dsimp only at hSw); go_simp; try with_reducible rfl)
                try simp only [Act.put, List.setIfInBounds_toArray, List.set_cons_zero, List.set_cons_succ]
                refine wpAnyC_one (i := 7) (oi := ?o8) ?hi8 (by kernel_rfl) ?step8
                case hi8 => (simp only [List.getElem?_toArray, List.getElem?_cons_zero, List.getElem?_cons_succ]; exact rfl)
                intro K' hK
                go_simp
                refine hK.out _ _ ?_ (fun hHeld => ?_)
                · exact fun _ => SK.out _ BA.out
                clear hK K' hHeld
                try simp only [Act.put, List.setIfInBounds_toArray, List.set_cons_zero, List.set_cons_succ]
                refine wpAnyC_one (i := 8) (oi := ?o9) ?hi9 (by kernel_rfl) ?step9
                case hi9 => (simp only [List.getElem?_toArray, List.getElem?_cons_zero, List.getElem?_cons_succ]; exact rfl)
                intro K' hK
                (refine step_appE (by rfl) _ _ (by rfl) Try.underlying36 arr2_info (by rfl) HM.out (OR.out.grew BA.out (Nat.le_refl _)) (Nat.le_trans NS.out BA.out.size) (by rfl) (obG CA.out).1.1 (obG CA.out).1.2 IE.out (by have := LK.out; omega) ?_; intro A8 c8 w8 o8 d8; have O8 := Lib.hid o8; have D8 := Lib.hid (grownE_below (OR.out.grew BA.out (Nat.le_refl _)) (Nat.le_trans NS.out BA.out.size) d8); have X8 : Hid (w8.heap[X]? = some (.cells #[.int .i64 (N : Int), .slice A' m cap'] 38 (0, 0))) := Lib.hid ((D8.out.block _ XB.out).trans ((BA.out.block _ (lt_of_block XK.out)).trans XK.out)); have r0 := (obG X8.out).1.1; have r1 := (obG X8.out).1.2; have r2 := (obG X8.out).2.1; have r3 := (obG X8.out).2.2; have S8 := Lib.hid (SB.out _ D8.out r1); clear o8 d8)
                refine hK.out _ _ ?_ (fun hHeld => ?_)
                · exact fun _ => S8.out
                clear hK K' hHeld
                try simp only [Act.put, List.setIfInBounds_toArray, List.set_cons_zero, List.set_cons_succ]
                refine wpAnyC_one (i := 9) (oi := ?o10) ?hi10 (by kernel_rfl) ?step10
                case hi10 => (simp only [List.getElem?_toArray, List.getElem?_cons_zero, List.getElem?_cons_succ]; exact rfl)
                intro K' hK
                go_simp
                refine hK.out _ _ ?_ (fun hHeld => ?_)
                · exact fun _ => S8.out
                clear hK K' hHeld
                try simp only [Act.put, List.setIfInBounds_toArray, List.set_cons_zero, List.set_cons_succ]
                refine wpAnyC_one (i := 10) (oi := ?o11) ?hi11 (by kernel_rfl) ?step11
                case hi11 => (simp only [List.getElem?_toArray, List.getElem?_cons_zero, List.getElem?_cons_succ]; exact rfl)
                intro K' hK
                go_simp
                refine hK.out _ _ ?_ (fun hHeld => ?_)
                · exact fun hx => (by cases hx)
                clear hK K' hHeld
                try simp only [Act.put, List.setIfInBounds_toArray, List.set_cons_zero, List.set_cons_succ]
                refine wpAnyC_done (by kernel_rfl) ?_ _
                go_wp2
                go_roundw
                case rel => exact ⟨k + 1, _, A8, c8, by omega, by go_num, Lib.hid (by rw [FK.out, List.length_append]; rfl), Lib.hid (by rw [FK.out]; exact O8.out.set X8.out (by decide) 1 _), Lib.hid (heap_setCell_same w8 X 1 _ _ _ X8.out), Lib.hid (((BB.out.drew.trans (But.of (BA.out.mono NS.out))).trans (But.of D8.out)).trans (But.set _ _ _ _ _))⟩
                case measure => simp [intOf]; omega
        · obtain rfl : l = k := by omega
          have FE : Hid ((es.take l).filter (Gr.keepI N es) = Gr.shortI N es) := Lib.hid (by rw [E.out, HN.out, List.take_length])
          have ML : Hid (m = (Gr.shortI N es).length) := Lib.hid (by rw [HM.out, FE.out])
          have OS : Hid (OwnE wr W4.heap.size 26 A' cap' (Gr.shortI N es)) := Lib.hid (by rw [← FE.out]; exact HO.out)
          obtain ⟨⟨v0, v1⟩, v2, v3⟩ := obG RR.out
          obtain ⟨⟨q0, q1⟩, q2, q3⟩ := obG HX.out
          clear HM HO
          go_wp2
          exact bodyPost_ret (v := .agg #[.int .i64 (N : Int), .slice A' m cap']) (by simp [results, Try.results18, go_sem, v0, v1]) rfl
            ⟨A', cap', by rw [ML.out], Lib.hid ((OS.out.set2 RR.out (by decide) _ _).edg), Lib.hid ((BW.out.setCell (p := ⟨w.heap.size + 1, 0, none⟩) (by simp) _).setCell (p := ⟨w.heap.size + 1, 1, none⟩) (by simp) _)⟩
end Go.Proofs.Ytiapacbbfgihdaa
