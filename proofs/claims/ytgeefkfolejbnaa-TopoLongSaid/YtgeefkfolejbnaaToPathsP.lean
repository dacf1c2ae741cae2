/-
  The program's Paths.
-/
import Derived.Test.YtgeefkfolejbnaaToOrder
import Derived.Test.YtgeefkfolejbnaaToRefLev
import Derived.Test.YtgeefkfolejbnaaURows
namespace Go.Proofs.Ytgeefkfolejbnaa
open Go.RowKit
/-- The numbers of paths from a: those of the first i nodes of the order, v at the next one, q. -/
structure To.Qv (E : Gr.E) (N a : Nat) (o : List Nat) (i q v : Nat) (D : List Nat) : Prop where
  len : D.length = N
  at_ : ∀ x, x < N → D.getD x 0 = if x = q then v else if x ∈ o.take i then To.pathsV E N a x else if x = a then 1 else 0
theorem set_getN (d : List Nat) (i j : Nat) (v : Nat) (hi : i < d.length) : (d.set i v).getD j 0 = if j = i then v else d.getD j 0 := by
  rw [List.getD_eq_getElem?_getD, List.getElem?_set]
  by_cases h : i = j
  · subst h; rw [if_pos rfl, if_pos hi, if_pos rfl]; rfl
  · rw [if_neg h, if_neg (Ne.symm h), List.getD_eq_getElem?_getD]
theorem To.Qv.zero (E : Gr.E) (N a : Nat) (o : List Nat) : To.Qv E N a o 0 N 0 ((List.replicate N 0).set a 1) :=
  ⟨by simp, fun x hx => by
    by_cases ha : a < N
    · rw [set_getN _ _ _ _ (by simpa using ha), if_neg (show ¬ x = N by omega), List.take_zero]
      by_cases h : x = a
      · simp [h]
      · rw [if_neg h, if_neg (by simp), if_neg h, List.getD_eq_getElem?_getD, List.getElem?_replicate, if_pos hx]; rfl
    · rw [List.set_eq_of_length_le (by simp; omega), List.getD_eq_getElem?_getD, List.getElem?_replicate, if_pos hx, if_neg (show ¬ x = N by omega), List.take_zero, if_neg (by simp), if_neg (by omega)]; rfl⟩
theorem To.Qv.begin {E : Gr.E} {N a : Nat} {o : List Nat} (h : To.Ord E N o) {i : Nat} (hi : i < o.length) {D : List Nat} (hD : To.Qv E N a o i N 0 D) : To.Qv E N a o i (o.getD i 0) (if a = o.getD i 0 then 1 else 0) D :=
  ⟨hD.len, fun x hx => by
    rw [hD.at_ x hx, if_neg (by omega)]
    by_cases hq : x = o.getD i 0
    · subst hq
      rw [if_neg (h.new hi), if_pos rfl]
      simp only [eq_comm]
    · rw [if_neg hq]⟩
theorem To.Qv.finish {E : Gr.E} {N a : Nat} {o : List Nat} {i : Nat} (hi : i < o.length) {D : List Nat} (hD : To.Qv E N a o i (o.getD i 0) (To.pathsV E N a (o.getD i 0)) D) : To.Qv E N a o (i + 1) N 0 D :=
  ⟨hD.len, fun x hx => by
    rw [hD.at_ x hx, if_neg (show ¬ x = N by omega), take_nat hi]
    by_cases hq : x = o.getD i 0
    · rw [if_pos hq, if_pos (by simp [hq]), hq]
    · rw [if_neg hq]
      by_cases hm : x ∈ o.take i
      · rw [if_pos hm, if_pos (by simp [hm])]
      · rw [if_neg hm, if_neg fun hx => (List.mem_append.1 hx).elim hm fun h => hq (by simpa using h)]⟩
theorem To.Qv.put {E : Gr.E} {N a : Nat} {o : List Nat} {i q v v' : Nat} {D : List Nat} (hD : To.Qv E N a o i q v D) (hq : q < N) : To.Qv E N a o i q v' (D.set q v') :=
  ⟨by rw [List.length_set, hD.len], fun x hx => by
    rw [set_getN _ _ _ _ (by rw [hD.len]; exact hq)]
    by_cases h : x = q
    · rw [if_pos h, if_pos h]
    · rw [if_neg h, hD.at_ x hx, if_neg h, if_neg h]⟩
theorem To.sm_part (f : Nat → Nat) : ∀ (l : List Nat) (k : Nat), To.sm f (l.take k) ≤ To.sm f l
  | [], k => by simp [To.sm]
  | a :: r, 0 => Nat.zero_le _
  | a :: r, k + 1 => Nat.add_le_add_left (To.sm_part f r k) (f a)
set_option maxRecDepth 100000 in
set_option maxHeartbeats 4000000 in
theorem paths_any (n : Int) (A : Option Addr) (es : Gr.EI) (cap : Nat) (a b : Int) (ha : inI a) (hb : inI b) (hl : es.length ≤ 9223372036854775807) (w : World) (h : Edg w w.heap.size A es) :
    Calls Try.prog 11 #[.agg #[.int .i64 n, .slice A es.length cap], .int .i64 a, .int .i64 b] w (NumG w (To.pathsI n es a b)) := by
  have OR : Hid (∀ W, Below w.heap.size w W → Calls Try.prog 9 #[.agg #[.int .i64 n, .slice A es.length cap]] W (OptG W (To.orderI n es))) := Lib.hid fun W hW => order_any n A es cap hl W (h.on hW)
  have AH : Hid (∀ W (N : Nat), n = (N : Int) → Gr.Good n es → Below w.heap.size w W → Calls Try.prog 27 #[.agg #[.int .i64 n, .slice A es.length cap]] W (BefG W (Gr.nat es) N)) := Lib.hid fun W N hN hg hW => by
    subst hN
    exact allAhead_any N A es cap hg W (h.on hW)
  generalize es.length = l at *
  clear h hl
  obtain ⟨W1, hW1⟩ : ∃ W1, W1 = w.alloc (.cells #[.int .i64 n, .slice A l cap] 27) := ⟨_, rfl⟩
  have P1 : Hid (W1.heap[w.heap.size]? = some (.cells #[.int .i64 n, .slice A l cap] 27 (0, 0))) := Lib.hid (by rw [hW1]; exact heap_alloc_new ..)
  have B1 : Hid (Below w.heap.size w W1) := Lib.hid (by rw [hW1]; exact (Below.refl _ _).alloc (Nat.le_refl _) _)
  obtain ⟨⟨x0, x1⟩, -⟩ := obG P1.out
  cases hg : To.okI n es with
  | false =>
    have OR1 : Hid (Calls Try.prog 9 #[.agg #[.int .i64 n, .slice A l cap]] W1 (OptN W1)) := Lib.hid ((OR.out _ B1.out).mono fun e w' h => by rw [To.orderI_no hg] at h; exact h.no)
    have E : Hid (To.pathsI n es a b = none) := Lib.hid (To.pathsI_no hg)
    clear hg
    go_enter Try.func11, Try.ntmps11
    go_wp2_with fail
    rw [← hW1]
    clear hW1
    (with_reducible refine OR1.out.mono ?_); rintro e w2 ⟨A2, c2, rfl, b2⟩
    go_wp2_with fail
    refine bodyPost_ret (v := .tuple #[.int .u64 0, .bool false]) (by simp [results, Try.results11, go_sem]) rfl ?_
    rw [E.out]
    exact ⟨rfl, Lib.hid (B1.out.trans (b2.out.mono B1.out.size))⟩
  | true =>
    obtain ⟨o, ho, hoI, HO0, hlen⟩ := To.orderI_yes hg
    obtain ⟨hG, hT⟩ := To.okI_iff.1 hg
    obtain ⟨N, hN⟩ : ∃ N : Nat, n = (N : Int) := ⟨n.toNat, by have := hG.n0; omega⟩
    have hN16 : N ≤ 16 := by have := hG.n16; omega
    have AH2 : Hid (∀ W, Below w.heap.size w W → Calls Try.prog 27 #[.agg #[.int .i64 n, .slice A l cap]] W (BefG W (Gr.nat es) N)) := Lib.hid fun W hW => AH.out W N hN hG hW
    subst hN
    rw [Int.toNat_natCast] at HO0 hlen
    have OR1 : Hid (Calls Try.prog 9 #[.agg #[.int .i64 (N : Int), .slice A l cap]] W1 (OptY W1 (Gr.ints o) N)) := Lib.hid ((OR.out _ B1.out).mono fun e w' h => by rw [hoI] at h; exact h.yes (by rw [Gr.ints_len, hlen]))
    have LO : Hid (Gr.Low (Gr.nat es) N) := Lib.hid (by have := hG.low; rwa [Int.toNat_natCast] at this)
    have LEN : Hid ((Gr.nat es).length ≤ 256) := Lib.hid (by unfold Gr.nat; rw [List.length_map]; exact hG.len)
    have ND : Hid ((Gr.nat es).Nodup) := Lib.hid hG.nodup_nat
    have TH := Lib.hid hT
    have OH := Lib.hid HO0
    have LH := Lib.hid hlen
    have MK := fun W => made_U N (by omega) W
    have NA : Hid (∀ W v, Calls Try.prog 29 #[.agg #[.int .i64 (N : Int), .slice A l cap], .int .i64 v] W (BoolG W (decide (0 ≤ v) && decide (v < (N : Int))))) := Lib.hid fun W v => toNode_any (N : Int) A l cap v W
    have HG := Lib.hid hg
    clear hg ho hoI HO0 hlen hG hT OR AH
    go_enter Try.func11, Try.ntmps11
    go_wp2_with fail
    rw [← hW1]
    clear hW1
    (with_reducible refine OR1.out.mono ?_); rintro e w2 ⟨A2, c2, rfl, z2, b2⟩
    have P2 : Hid (w2.heap[w.heap.size]? = some (.cells #[.int .i64 (N : Int), .slice A l cap] 27 (0, 0))) := Lib.hid ((b2.out.block _ (lt_of_block P1.out)).trans P1.out)
    have B2 : Hid (Below w.heap.size w w2) := Lib.hid (B1.out.trans (b2.out.mono B1.out.size))
    have Z2 : Hid (Zs w2 w2.heap.size A2 (Gr.ints o)) := z2
    clear x0 x1 b2 z2 P1 B1 OR1
    obtain ⟨⟨x0, x1⟩, -⟩ := obG P2.out
    go_wp2_with fail
    cases hra : (decide (0 ≤ a) && decide (a < (N : Int))) with
    | false =>
      have E : Hid (To.pathsI (N : Int) es a b = none) := Lib.hid (To.pathsI_out fun h => by rw [decide_eq_true h.1, decide_eq_true h.2.1] at hra; cases hra)
      have NA1 : Hid (Calls Try.prog 29 #[.agg #[.int .i64 (N : Int), .slice A l cap], .int .i64 a] w2 (BoolG w2 false)) := Lib.hid (by have := NA.out w2 a; rwa [hra] at this)
      clear hra
      (with_reducible refine NA1.out.mono ?_); rintro e w3 ⟨rfl, b3⟩
      go_wp2_with fail
      refine bodyPost_ret (v := .tuple #[.int .u64 0, .bool false]) (by simp [results, Try.results11, go_sem]) rfl ?_
      rw [E.out]
      exact ⟨rfl, Lib.hid (B2.out.trans (b3.out.mono B2.out.size))⟩
    | true =>
    have NA1 : Hid (Calls Try.prog 29 #[.agg #[.int .i64 (N : Int), .slice A l cap], .int .i64 a] w2 (BoolG w2 true)) := Lib.hid (by have := NA.out w2 a; rwa [hra] at this)
    obtain ⟨an, rfl, han⟩ : ∃ an : Nat, a = (an : Int) ∧ an < N := by
      simp only [Bool.and_eq_true, decide_eq_true_eq] at hra
      exact ⟨a.toNat, by omega, by omega⟩
    clear hra ha
    (with_reducible refine NA1.out.mono ?_); rintro e w3 ⟨rfl, b3⟩
    have P3 : Hid (w3.heap[w.heap.size]? = some (.cells #[.int .i64 (N : Int), .slice A l cap] 27 (0, 0))) := Lib.hid ((b3.out.block _ (lt_of_block P2.out)).trans P2.out)
    have B3 : Hid (Below w.heap.size w w3) := Lib.hid (B2.out.trans (b3.out.mono B2.out.size))
    have Z3 : Hid (Zs w3 w3.heap.size A2 (Gr.ints o)) := Lib.hid (Z2.out.on b3.out)
    clear x0 x1 b3 Z2 P2 B2 NA1
    obtain ⟨⟨x0, x1⟩, -⟩ := obG P3.out
    go_wp2_with fail
    cases hrb : (decide (0 ≤ b) && decide (b < (N : Int))) with
    | false =>
      have E : Hid (To.pathsI (N : Int) es an b = none) := Lib.hid (To.pathsI_out fun h => by rw [decide_eq_true h.2.2.1, decide_eq_true h.2.2.2] at hrb; cases hrb)
      have NB1 : Hid (Calls Try.prog 29 #[.agg #[.int .i64 (N : Int), .slice A l cap], .int .i64 b] w3 (BoolG w3 false)) := Lib.hid (by have := NA.out w3 b; rwa [hrb] at this)
      clear hrb
      (with_reducible refine NB1.out.mono ?_); rintro e w4 ⟨rfl, b4⟩
      go_wp2_with fail
      refine bodyPost_ret (v := .tuple #[.int .u64 0, .bool false]) (by simp [results, Try.results11, go_sem]) rfl ?_
      rw [E.out]
      exact ⟨rfl, Lib.hid (B3.out.trans (b4.out.mono B3.out.size))⟩
    | true =>
    have NB1 : Hid (Calls Try.prog 29 #[.agg #[.int .i64 (N : Int), .slice A l cap], .int .i64 b] w3 (BoolG w3 true)) := Lib.hid (by have := NA.out w3 b; rwa [hrb] at this)
    obtain ⟨bn, rfl, hbn⟩ : ∃ bn : Nat, b = (bn : Int) ∧ bn < N := by
      simp only [Bool.and_eq_true, decide_eq_true_eq] at hrb
      exact ⟨b.toNat, by omega, by omega⟩
    have han' : (an : Int) < (N : Int) := by omega
    have hbn' : (bn : Int) < (N : Int) := by omega
    have E : Hid (To.pathsI (N : Int) es an bn = some (To.pathsV (Gr.nat es) N an bn)) := Lib.hid (by
      rw [To.pathsI_yes HG.out ⟨by omega, by omega, by omega, by omega⟩, Int.toNat_natCast, Int.toNat_natCast, Int.toNat_natCast])
    clear hrb hb NA HG
    (with_reducible refine NB1.out.mono ?_); rintro e w4 ⟨rfl, b4⟩
    have P4 : Hid (w4.heap[w.heap.size]? = some (.cells #[.int .i64 (N : Int), .slice A l cap] 27 (0, 0))) := Lib.hid ((b4.out.block _ (lt_of_block P3.out)).trans P3.out)
    have B4 : Hid (Below w.heap.size w w4) := Lib.hid (B3.out.trans (b4.out.mono B3.out.size))
    have Z4 : Hid (Zs w4 w4.heap.size A2 (Gr.ints o)) := Lib.hid (Z3.out.on b4.out)
    clear x0 x1 b4 Z3 P3 B3 NB1
    obtain ⟨⟨x0, x1⟩, -⟩ := obG P4.out
    go_wp2_with fail
    (with_reducible refine (AH2.out _ B4.out).mono ?_); rintro e w5 ⟨g, rfl, bf5, b5⟩
    have P5 : Hid (w5.heap[w.heap.size]? = some (.cells #[.int .i64 (N : Int), .slice A l cap] 27 (0, 0))) := Lib.hid ((b5.out.block _ (lt_of_block P4.out)).trans P4.out)
    have B5 : Hid (Below w.heap.size w w5) := Lib.hid (B4.out.trans (b5.out.mono B4.out.size))
    have Z5 : Hid (Zs w5 w5.heap.size A2 (Gr.ints o)) := Lib.hid (Z4.out.on b5.out)
    clear x0 x1 b5 Z4 P4 B4 AH2
    obtain ⟨⟨x0, x1⟩, -⟩ := obG P5.out
    obtain ⟨R, hR⟩ : ∃ R, R = w5.heap.size := ⟨_, rfl⟩
    obtain ⟨W6, hW6⟩ : ∃ W6, W6 = w5.alloc (.cells (madeCells #[.int .u64 0] N) 31) := ⟨_, rfl⟩
    have C6 : Hid (Below R w5 W6) := Lib.hid (by rw [hW6, hR]; exact (Below.refl _ _).alloc (Nat.le_refl _) _)
    have O6 : Hid (OwnU W6 R (some ⟨R, 0, none⟩) N (List.replicate N 0)) := Lib.hid (by rw [hW6, hR]; exact OwnU.made w5 N (by omega))
    have XR : Hid (w.heap.size < R) := Lib.hid (by rw [hR]; exact lt_of_block P5.out)
    have ZO : Hid (∀ W, Below R w5 W → Zs W R A2 (Gr.ints o)) := Lib.hid fun W hW => by
      rw [hR] at hW ⊢
      exact Z5.out.below hW
    have BF : Hid (∀ W, Below R w5 W → Bef W R g (Gr.nat es) N) := Lib.hid fun W hW => by
      rw [hR] at hW ⊢
      exact bf5.out.below hW
    have BX : Hid (∀ W, Below R w5 W → Below w.heap.size w W) := Lib.hid fun W hW => B5.out.trans (hW.mono (Nat.le_of_lt XR.out))
    go_upto_region 6 with fail
    rw [← hW6, ← hR]
    clear hW6 hR MK x0 x1 P5 B5 Z5 bf5
    have O7 : Hid (OwnU (W6.setCell ⟨R, an, none⟩ (.int .u64 1)) R (some ⟨R, 0, none⟩) N ((List.replicate N 0).set an 1)) := Lib.hid (O6.out.stored an 1)
    have C7 : Hid (Below R w5 (W6.setCell ⟨R, an, none⟩ (.int .u64 1))) := Lib.hid (C6.out.setCell (p := ⟨R, an, none⟩) (Nat.le_refl R) _)
    have hf6 := O6.out.thaw an
    have hc6 := O6.out.val (i := an) (by simpa using han)
    go_upto_region 7 with fail
    clear hf6 hc6
    generalize W6.setCell ⟨R, an, none⟩ (.int .u64 1) = W7 at *
    clear O6 C6
    go_wp2_with fail
    go_loopw [45] (fun iv wr => ∃ (i : Nat) (D : List Nat), i ≤ N ∧ iv = .int .i64 i ∧ Hid (To.Qv (Gr.nat es) N an o i N 0 D) ∧ Hid (OwnU wr R (some ⟨R, 0, none⟩) N D) ∧ Hid (Below R w5 wr)) (fun iv _ => N - (intOf iv).toNat)
    case atStart => exact ⟨0, _, Nat.zero_le _, rfl, Lib.hid (To.Qv.zero _ _ _ _), O7, C7⟩
    case round =>
      obtain ⟨i, D, hi, rfl, HD, HO, HB⟩ := hrel
      obtain ⟨wo, hwo⟩ : ∃ wo, wo = wr := ⟨_, rfl⟩
      rw [← hwo] at HO HB ⊢
      clear hwo O7 C7
      by_cases hlt : i < N
      · have hlt' : (i : Int) < (N : Int) := by omega
        have hio : i < o.length := by rw [LH.out]; exact hlt
        obtain ⟨q, hq⟩ : ∃ q, q = o.getD i 0 := ⟨_, rfl⟩
        obtain ⟨b, off, y, rfl, hb, hc, hy, hy0, hy1⟩ := (ZO.out _ HB.out).at_ (k := i) (by rw [Gr.ints_len]; exact hio)
        obtain rfl : y = (q : Int) := by rw [← hy.out, Gr.ints_get, hq]
        have hqN : q < N := by rw [hq]; exact OH.out.low _ (getD_mem hio)
        have hqN' : (q : Int) < (N : Int) := by omega
        have HD1 : Hid (To.Qv (Gr.nat es) N an o i q ((if an = q then 1 else 0) + To.sm (To.pathsV (Gr.nat es) N an) ((To.befV (Gr.nat es) q).take 0)) D) := Lib.hid (by rw [hq]; exact HD.out.begin OH.out hio)
        have HQ := Lib.hid hq
        obtain ⟨A5, c5, hg5, hz5⟩ := (BF.out _ HB.out).2 q hqN
        have Z5 : Hid (∀ W, Below R w5 W → Zs W R A5 (Gr.ints (To.befV (Gr.nat es) q))) := Lib.hid fun W hW => by
          obtain ⟨A6, c6, hg6, hz6⟩ := (BF.out _ hW).2 q hqN
          have e1 := (hW.cell (p := ⟨g, q, none⟩) (BF.out _ HB.out).1).symm.trans hg6
          have e2 := (HB.out.cell (p := ⟨g, q, none⟩) (BF.out _ HB.out).1).symm.trans hg5
          rw [e1] at e2
          injection e2 with e2
          injection e2 with e2 _ _
          rw [← e2]; exact hz6
        obtain ⟨bv, hbv⟩ : ∃ bv, bv = To.befV (Gr.nat es) q := ⟨_, rfl⟩
        have AP : Hid (∀ x ∈ bv, x < N ∧ x ≠ q ∧ x ∈ o.take i) := Lib.hid fun x hx => by
          rw [hbv] at hx
          have he := To.mem_bef.1 hx
          rw [HQ.out] at he
          have hm := OH.out.behind i hio x he
          exact ⟨OH.out.low _ (List.mem_of_mem_take hm), fun h => (OH.out.new hio) (by rw [← HQ.out, ← h]; exact hm), hm⟩
        have LV : Hid ((if an = q then 1 else 0) + To.sm (To.pathsV (Gr.nat es) N an) bv = To.pathsV (Gr.nat es) N an q) := Lib.hid (by
          rw [hbv, To.paths_tail LO.out TH.out (by omega : 0 < N), To.sm_perm (To.bef_perm LO.out ND.out q)])
        have LT : Hid (To.pathsV (Gr.nat es) N an q ≤ 1152921504606846976) := Lib.hid (To.paths_le LO.out TH.out hN16)
        have hlz : bv.length ≤ 256 := by rw [hbv]; exact Nat.le_trans (To.bef_len _ _) LEN.out
        obtain ⟨lz, hz⟩ : ∃ lz, lz = bv.length := ⟨_, rfl⟩
        have LZ := Lib.hid hz
        rw [← hbv, ← hz] at hg5
        rw [← hbv] at Z5 HD1
        rw [← hz] at hlz
        clear hy hy0 hy1 HD hq hbv hz hz5
        go_wp2_with fail
        clear hc hg5
        go_loopw [54] (fun iv wr => ∃ (k : Nat) (D' : List Nat), k ≤ lz ∧ iv = .int .i64 k ∧ Hid (To.Qv (Gr.nat es) N an o i q ((if an = q then 1 else 0) + To.sm (To.pathsV (Gr.nat es) N an) (bv.take k)) D') ∧ Hid (OwnU wr R (some ⟨R, 0, none⟩) N D') ∧ Hid (Below R w5 wr)) (fun iv _ => lz - (intOf iv).toNat)
        case atStart => exact ⟨0, D, Nat.zero_le _, rfl, HD1, HO, HB⟩
        case round =>
          obtain ⟨k, D', hk, rfl, HD', HO', HB'⟩ := hrel
          by_cases hlk : k < lz
          · have hlk' : (k : Int) < (lz : Int) := by omega
            have hka : k < bv.length := by rw [← LZ.out]; exact hlk
            obtain ⟨b5, o5, y5, rfl, hb5, hc5, hy5, hy50, hy51⟩ := (Z5.out _ HB'.out).at_ (k := k) (by rw [Gr.ints_len]; exact hka)
            obtain ⟨x, hx⟩ : ∃ x, x = bv.getD k 0 := ⟨_, rfl⟩
            obtain rfl : y5 = (x : Int) := by rw [← hy5.out, Gr.ints_get, hx]
            obtain ⟨hxN, hxq, hxo⟩ := AP.out x (by rw [hx]; exact getD_mem hka)
            have hxN' : (x : Int) < (N : Int) := by omega
            have hda := HO'.out.val (i := x) (by rw [HD'.out.len]; exact hxN)
            have hdq := HO'.out.val (i := q) (by rw [HD'.out.len]; exact hqN)
            rw [HD'.out.at_ x hxN, if_neg hxq, if_pos hxo] at hda
            rw [HD'.out.at_ q hqN, if_pos rfl] at hdq
            have hf := HO'.out.thaw q
            have MS : Hid (To.sm (To.pathsV (Gr.nat es) N an) (bv.take (k + 1)) = To.sm (To.pathsV (Gr.nat es) N an) (bv.take k) + To.pathsV (Gr.nat es) N an x) := Lib.hid (by rw [take_getD hka hx.symm, To.sm_snoc])
            have hms := MS.out
            have hmt := To.sm_part (To.pathsV (Gr.nat es) N an) bv (k + 1)
            have hlv := LV.out
            have hlt2 := LT.out
            obtain ⟨f0, hf0⟩ : ∃ f0 : Nat, f0 = if an = q then 1 else 0 := ⟨_, rfl⟩
            rw [← hf0] at hdq HD' hlv
            obtain ⟨u, hu⟩ : ∃ u : Nat, u = To.pathsV (Gr.nat es) N an x := ⟨_, rfl⟩
            obtain ⟨v, hv⟩ : ∃ v : Nat, v = f0 + To.sm (To.pathsV (Gr.nat es) N an) (bv.take k) := ⟨_, rfl⟩
            rw [← hu] at hda hms
            rw [← hv] at hdq HD'
            have hw : IntKind.u64.wrap ((v : Int) + (u : Int)) = ((v + u : Nat) : Int) := by rw [IntWalk.u64_in _ ⟨by omega, by omega⟩]; omega
            have D2 : Hid (To.Qv (Gr.nat es) N an o i q ((if an = q then 1 else 0) + To.sm (To.pathsV (Gr.nat es) N an) (bv.take (k + 1))) (D'.set q (v + u))) := Lib.hid (by
              rw [← hf0, hms, ← Nat.add_assoc, ← hv]
              exact HD'.out.put hqN)
            have SS := Lib.hid (And.intro hda hdq)
            clear hy5 hy50 hy51 hms hmt hlv hlt2 hf0 hu hv hx MS
            go_wp2_with fail
            refine wp_region_C (fun w' => w'.cell? ⟨R, x, none⟩ = some (.int .u64 (u : Int)) ∧ w'.cell? ⟨R, q, none⟩ = some (.int .u64 (v : Int))) 10 (by kernel_rfl) ?_
            have hS0 : (fun w' : World => w'.cell? ⟨R, x, none⟩ = some (.int .u64 (u : Int)) ∧ w'.cell? ⟨R, q, none⟩ = some (.int .u64 (v : Int))) wr.drew := SS.out
            refine wpAnyC_take (i := 0) (oi := ?o1) (v := ?v1) ?hi1 (by kernel_rfl) (by kernel_rfl) (by kernel_rfl) ?hQ1 (by kernel_rfl) (by decide) (by kernel_rfl) (Or.inl ⟨?hg1, ?hy1⟩) (by assumption) ?rest1
            case hi1 => (simp only [List.getElem?_toArray, List.getElem?_cons_zero]; exact rfl)
            case hQ1 => exact fun _ _ _ h => h
            case hg1 => rfl
            case hy1 => (intro w' hSw; (try dsimp only at hSw); go_simp; try with_reducible rfl)
            try simp only [Act.put, List.setIfInBounds_toArray, List.set_cons_zero, List.set_cons_succ]
            refine wpAnyC_take (i := 1) (oi := ?o2) (v := ?v2) ?hi2 (by kernel_rfl) (by kernel_rfl) (by kernel_rfl) ?hQ2 (by kernel_rfl) (by decide) (by kernel_rfl) (Or.inl ⟨?hg2, ?hy2⟩) (by assumption) ?rest2
            case hi2 => (simp only [List.getElem?_toArray, List.getElem?_cons_zero, List.getElem?_cons_succ]; exact rfl)
            case hQ2 => exact fun _ _ _ h => h
            case hg2 => rfl
            case hy2 => (intro w' hSw; (try dsimp only at hSw); go_simp; try with_reducible rfl)
            try simp only [Act.put, List.setIfInBounds_toArray, List.set_cons_zero, List.set_cons_succ]
            refine wpAnyC_take (i := 2) (oi := ?o3) (v := ?v3) ?hi3 (by kernel_rfl) (by kernel_rfl) (by kernel_rfl) ?hQ3 (by kernel_rfl) (by decide) (by kernel_rfl) (Or.inl ⟨?hg3, ?hy3⟩) (by assumption) ?rest3
            case hi3 => (simp only [List.getElem?_toArray, List.getElem?_cons_zero, List.getElem?_cons_succ]; exact rfl)
            case hQ3 => exact fun _ _ _ h => h
            case hg3 => rfl
            case hy3 => (intro w' hSw; (try dsimp only at hSw); go_simp; try with_reducible rfl)
            try simp only [Act.put, List.setIfInBounds_toArray, List.set_cons_zero, List.set_cons_succ]
            refine wpAnyC_take (i := 3) (oi := ?o4) (v := ?v4) ?hi4 (by kernel_rfl) (by kernel_rfl) (by kernel_rfl) ?hQ4 (by kernel_rfl) (by decide) (by kernel_rfl) (Or.inl ⟨?hg4, ?hy4⟩) (by assumption) ?rest4
            case hi4 => (simp only [List.getElem?_toArray, List.getElem?_cons_zero, List.getElem?_cons_succ]; exact rfl)
            case hQ4 => exact fun _ _ _ h => h
            case hg4 => rfl
            case hy4 => (intro w' hSw; (try dsimp only at hSw); go_simp; try with_reducible rfl)
            try simp only [Act.put, List.setIfInBounds_toArray, List.set_cons_zero, List.set_cons_succ]
            refine wpAnyC_take (i := 4) (oi := ?o5) (v := ?v5) ?hi5 (by kernel_rfl) (by kernel_rfl) (by kernel_rfl) ?hQ5 (by kernel_rfl) (by decide) (by kernel_rfl) (Or.inl ⟨?hg5, ?hy5⟩) (by assumption) ?rest5
            case hi5 => (simp only [List.getElem?_toArray, List.getElem?_cons_zero, List.getElem?_cons_succ]; exact rfl)
            case hQ5 => exact fun _ _ _ h => h
            case hg5 => rfl
            case hy5 => (intro w' hSw; (try dsimp only at hSw); go_simp; try with_reducible rfl)
            try simp only [Act.put, List.setIfInBounds_toArray, List.set_cons_zero, List.set_cons_succ]
            refine wpAnyC_take (i := 5) (oi := ?o6) (v := ?v6) ?hi6 (by kernel_rfl) (by kernel_rfl) (by kernel_rfl) ?hQ6 (by kernel_rfl) (by decide) (by kernel_rfl) (Or.inl ⟨?hg6, ?hy6⟩) (by assumption) ?rest6
            case hi6 => (simp only [List.getElem?_toArray, List.getElem?_cons_zero, List.getElem?_cons_succ]; exact rfl)
            case hQ6 => exact fun _ _ _ h => h
            case hg6 => rfl
            case hy6 => (intro w' hSw; (try dsimp only at hSw); go_simp; try with_reducible rfl)
            try simp only [Act.put, List.setIfInBounds_toArray, List.set_cons_zero, List.set_cons_succ]
            refine wpAnyC_take (i := 6) (oi := ?o7) (v := ?v7) ?hi7 (by kernel_rfl) (by kernel_rfl) (by kernel_rfl) ?hQ7 (by kernel_rfl) (by decide) (by kernel_rfl) (Or.inl ⟨?hg7, ?hy7⟩) (by assumption) ?rest7
            case hi7 => (simp only [List.getElem?_toArray, List.getElem?_cons_zero, List.getElem?_cons_succ]; exact rfl)
            case hQ7 => exact fun _ _ _ h => h
            case hg7 => rfl
            case hy7 => (intro w' hSw; (try dsimp only at hSw); go_simp; try with_reducible rfl)
            try simp only [Act.put, List.setIfInBounds_toArray, List.set_cons_zero, List.set_cons_succ]
            refine wpAnyC_take (i := 7) (oi := ?o8) (v := ?v8) ?hi8 (by kernel_rfl) (by kernel_rfl) (by kernel_rfl) ?hQ8 (by kernel_rfl) (by decide) (by kernel_rfl) (Or.inl ⟨?hg8, ?hy8⟩) (by assumption) ?rest8
            case hi8 => (simp only [List.getElem?_toArray, List.getElem?_cons_zero, List.getElem?_cons_succ]; exact rfl)
            case hQ8 => exact fun _ _ _ h => h
            case hg8 => rfl
            case hy8 => (intro w' hSw; (try dsimp only at hSw); go_simp; try with_reducible rfl)
            try simp only [Act.put, List.setIfInBounds_toArray, List.set_cons_zero, List.set_cons_succ]
            refine wpAnyC_take (i := 8) (oi := ?o9) (v := ?v9) ?hi9 (by kernel_rfl) (by kernel_rfl) (by kernel_rfl) ?hQ9 (by kernel_rfl) (by decide) (by kernel_rfl) (Or.inl ⟨?hg9, ?hy9⟩) (by assumption) ?rest9
            case hi9 => (simp only [List.getElem?_toArray, List.getElem?_cons_zero, List.getElem?_cons_succ]; exact rfl)
            case hQ9 => exact fun _ _ _ h => h
            case hg9 => rfl
            case hy9 => (intro w' hSw; (try dsimp only at hSw); go_simp; try with_reducible rfl)
            try simp only [Act.put, List.setIfInBounds_toArray, List.set_cons_zero, List.set_cons_succ]
            clear hw
            refine wpAnyC_one (i := 9) (oi := ?o10) ?hi10 (by kernel_rfl) ?step10
            case hi10 => (simp only [List.getElem?_toArray, List.getElem?_cons_zero, List.getElem?_cons_succ]; exact rfl)
            intro K' hK
            go_simp
            refine hK.out _ _ ?_ (fun hHeld => ?_)
            · exact fun _ => SS.out
            clear hK K' hHeld
            try simp only [Act.put, List.setIfInBounds_toArray, List.set_cons_zero, List.set_cons_succ]
            refine wpAnyC_one (i := 10) (oi := ?o11) ?hi11 (by kernel_rfl) ?step11
            case hi11 => (simp only [List.getElem?_toArray, List.getElem?_cons_zero, List.getElem?_cons_succ]; exact rfl)
            intro K' hK
            go_simp
            refine hK.out _ _ ?_ (fun hHeld => ?_)
            · exact fun h => (by cases h)
            clear hK K' hHeld
            try simp only [Act.put, List.setIfInBounds_toArray, List.set_cons_zero, List.set_cons_succ]
            clear hda hdq hf
            refine wpAnyC_done (by kernel_rfl) ?_ _
            go_wp2
            go_roundw
            case rel => exact ⟨k + 1, _, by omega, by go_num, D2, Lib.hid (OwnU.stored (w := wr.drew) HO'.out q (v + u)), Lib.hid (HB'.out.drew.setCell (p := ⟨R, q, none⟩) (Nat.le_refl R) _)⟩
            case measure => simp [intOf]; omega
          · obtain rfl : lz = k := by omega
            have D2 : Hid (To.Qv (Gr.nat es) N an o (i + 1) N 0 D') := Lib.hid (To.Qv.finish hio (by
              have h := HD'.out
              rw [LZ.out, List.take_length, LV.out] at h
              rw [← HQ.out]; exact h))
            go_wp2
            go_roundw
            case rel => exact ⟨i + 1, D', by omega, by go_num, D2, HO', HB'⟩
            case measure => simp [intOf]; omega
      · obtain rfl : N = i := by omega
        have hv := HO.out.val (i := bn) (by rw [HD.out.len]; exact hbn)
        rw [HD.out.at_ bn hbn, if_neg (by omega), if_pos (by rw [← LH.out, List.take_length]; exact To.nodup_full OH.out.once OH.out.low LH.out bn hbn)] at hv
        go_wp2_with fail
        refine bodyPost_ret (v := .tuple #[.int .u64 ((To.pathsV (Gr.nat es) N an bn : Nat) : Int), .bool true]) (by simp [results, Try.results11, go_sem]) rfl ?_
        rw [E.out]
        exact ⟨rfl, Lib.hid (BX.out _ HB.out)⟩
end Go.Proofs.Ytgeefkfolejbnaa
