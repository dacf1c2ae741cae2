/-
  The reference's Paths.
-/
import Derived.Test.YtgeefkfolejbnaaToRefLev
import Derived.Test.YtgeefkfolejbnaaURows
import Derived.Test.YtgeefkfolejbnaaLastOp
namespace Go.Proofs.Ytgeefkfolejbnaa
open Go.RowKit
theorem set_getN (d : List Nat) (i j : Nat) (v : Nat) (hi : i < d.length) : (d.set i v).getD j 0 = if j = i then v else d.getD j 0 := by
  rw [List.getD_eq_getElem?_getD, List.getElem?_set]
  by_cases h : i = j
  · subst h; rw [if_pos rfl, if_pos hi, if_pos rfl]; rfl
  · rw [if_neg h, if_neg (Ne.symm h), List.getD_eq_getElem?_getD]
theorem To.sm_at (a v : Nat) : ∀ (l : List Nat), l.Nodup → To.sm (fun c => if c = a then v else 0) l = if a ∈ l then v else 0
  | [], _ => rfl
  | b :: r, h => by
    obtain ⟨h1, h2⟩ := List.nodup_cons.1 h
    show (if b = a then v else 0) + To.sm (fun c => if c = a then v else 0) r = _
    rw [To.sm_at a v r h2]
    by_cases hab : b = a
    · subst hab
      rw [if_pos rfl, if_neg h1, if_pos (by simp)]; rfl
    · rw [if_neg hab]
      by_cases hr : a ∈ r
      · rw [if_pos hr, if_pos (by simp [hr])]; omega
      · rw [if_neg hr, if_neg (by simp [Ne.symm hab, hr])]
theorem To.sm_mono {f g : Nat → Nat} {l : List Nat} (h : ∀ a ∈ l, f a ≤ g a) : To.sm f l ≤ To.sm g l := by
  induction l with
  | nil => exact Nat.le_refl _
  | cons a r ih =>
    have h1 := h a (by simp)
    have h2 := ih fun b hb => h b (List.mem_cons_of_mem _ hb)
    show f a + To.sm f r ≤ g a + To.sm g r
    omega
/-- What node x has been told behind the first i nodes of the order. -/
def To.acc (E : Gr.E) (N a : Nat) (o : List Nat) (i x : Nat) : Nat := (if a = x then 1 else 0) + To.sm (fun c => if c ∈ o.take i then To.pathsV E N a c else 0) (Gr.aheadV E N x)
theorem To.acc_zero (E : Gr.E) (N a : Nat) (o : List Nat) (x : Nat) : To.acc E N a o 0 x = if a = x then 1 else 0 := by
  unfold To.acc
  rw [To.sm_same (g := fun _ => 0) (fun c _ => by simp), To.sm_zero]; rfl
theorem To.acc_next {E : Gr.E} {N a : Nat} {o : List Nat} {i : Nat} (hl : Gr.Low E N) (h : To.Ord E N o) (hi : i < o.length) (x : Nat) : To.acc E N a o (i + 1) x = To.acc E N a o i x + (if x ∈ Gr.behindV E N (o.getD i 0) then To.pathsV E N a (o.getD i 0) else 0) := by
  unfold To.acc
  rw [Nat.add_assoc]
  congr 1
  rw [To.sm_same (g := fun c => (if c ∈ o.take i then To.pathsV E N a c else 0) + (if c = o.getD i 0 then To.pathsV E N a (o.getD i 0) else 0)) (fun c _ => by
    rw [take_nat hi]
    by_cases hc : c = o.getD i 0
    · rw [if_pos (by simp [hc]), if_neg (by rw [hc]; exact h.new hi), if_pos hc, hc]; omega
    · rw [if_neg hc]
      by_cases hm : c ∈ o.take i
      · rw [if_pos hm, if_pos (by simp [hm])]; rfl
      · rw [if_neg hm, if_neg fun hx => (List.mem_append.1 hx).elim hm fun h => hc (by simpa using h)]), To.sm_add, To.sm_at _ _ _ (To.nodup_ahead _ _ _)]
  congr 1
  by_cases he : (o.getD i 0, x) ∈ E
  · rw [if_pos ((Gr.mem_ahead hl).2 he), if_pos ((Gr.mem_behind hl).2 he)]
  · rw [if_neg fun h => he ((Gr.mem_ahead hl).1 h), if_neg fun h => he ((Gr.mem_behind hl).1 h)]
theorem To.acc_full {E : Gr.E} {N a : Nat} {o : List Nat} {i x : Nat} (hl : Gr.Low E N) (ht : Gr.Tree E) (hn : 0 < N) (h : ∀ c, (c, x) ∈ E → c ∈ o.take i) : To.acc E N a o i x = To.pathsV E N a x := by
  rw [To.paths_tail hl ht hn]
  unfold To.acc
  congr 1
  exact To.sm_same fun c hc => if_pos (h c ((Gr.mem_ahead hl).1 hc))
theorem To.acc_le {E : Gr.E} {N a : Nat} {o : List Nat} {i x : Nat} (hl : Gr.Low E N) (ht : Gr.Tree E) (hn : 0 < N) (h16 : N ≤ 16) : To.acc E N a o i x ≤ 1152921504606846976 := by
  refine Nat.le_trans ?_ (To.paths_le (a := a) (b := x) hl ht h16)
  rw [To.paths_tail hl ht hn]
  unfold To.acc
  have := To.sm_mono (f := fun c => if c ∈ o.take i then To.pathsV E N a c else 0) (g := fun c => To.pathsV E N a c) (l := Gr.aheadV E N x) (fun c _ => by
    show (if c ∈ o.take i then To.pathsV E N a c else 0) ≤ To.pathsV E N a c
    split <;> omega)
  omega
/-- The row behind the first i nodes of the order and the first of those behind the next one. -/
structure To.Pv (E : Gr.E) (N a : Nat) (o : List Nat) (i q : Nat) (bv : List Nat) (V : List Nat) : Prop where
  len : V.length = N
  at_ : ∀ x, x < N → V.getD x 0 = To.acc E N a o i x + (if x ∈ bv then To.pathsV E N a q else 0)
theorem To.Pv.zero {E : Gr.E} {N a : Nat} (o : List Nat) (ha : a < N) (q : Nat) : To.Pv E N a o 0 q [] ((List.replicate N 0).set a 1) :=
  ⟨by simp, fun x hx => by
    rw [set_getN _ _ _ _ (by simpa using ha), To.acc_zero]
    by_cases h : x = a
    · rw [if_pos h, if_pos h.symm]; rfl
    · rw [if_neg h, if_neg (Ne.symm h), List.getD_eq_getElem?_getD, List.getElem?_replicate, if_pos hx]; rfl⟩
theorem To.Pv.none_ {E : Gr.E} {N a : Nat} {o : List Nat} {i q q' : Nat} {V : List Nat} (h : To.Pv E N a o i q [] V) : To.Pv E N a o i q' [] V := ⟨h.len, fun x hx => by rw [h.at_ x hx]; rfl⟩
theorem To.Pv.next {E : Gr.E} {N a : Nat} {o : List Nat} {i : Nat} {V : List Nat} (hl : Gr.Low E N) (ho : To.Ord E N o) (hi : i < o.length) (h : To.Pv E N a o i (o.getD i 0) (Gr.behindV E N (o.getD i 0)) V) (q' : Nat) : To.Pv E N a o (i + 1) q' [] V :=
  ⟨h.len, fun x hx => by rw [h.at_ x hx, To.acc_next hl ho hi]; rfl⟩
theorem To.Pv.put {E : Gr.E} {N a : Nat} {o : List Nat} {i q y : Nat} {bv : List Nat} {V : List Nat} (h : To.Pv E N a o i q bv V) (hy : y < N) (hn : y ∉ bv) : To.Pv E N a o i q (bv ++ [y]) (V.set y (V.getD y 0 + To.pathsV E N a q)) :=
  ⟨by rw [List.length_set, h.len], fun x hx => by
    rw [set_getN _ _ _ _ (by rw [h.len]; exact hy)]
    by_cases hxy : x = y
    · subst hxy
      rw [if_pos rfl, h.at_ x hx, if_neg hn, if_pos (by simp)]; omega
    · rw [if_neg hxy, h.at_ x hx]
      by_cases hm : x ∈ bv
      · rw [if_pos hm, if_pos (by simp [hm])]
      · rw [if_neg hm, if_neg fun hx => (List.mem_append.1 hx).elim hm fun h => hxy (by simpa using h)]⟩
theorem alloc_set (w : World) (cs : Array Value) (T : TypeId) (an : Nat) (v : Value) : (w.alloc (.cells cs T)).setCell ⟨w.heap.size, an, none⟩ v = w.alloc (.cells (cs.setIfInBounds an v) T) := by
  simp [go_sem]
def NumN (w : World) (e : Ending) (w' : World) : Prop := e = .returned (.tuple #[.int .u64 0, .bool false]) ∧ Hid (Below w.heap.size w w')
set_option maxRecDepth 100000 in
set_option maxHeartbeats 8000000 in
theorem refPaths_any (n : Int) (A : Option Addr) (es : Gr.EI) (cap : Nat) (a b : Int) (hl : es.length ≤ 1000000) (w : World) (h : Edg w w.heap.size A es) :
    Calls Try.prog 18 #[.agg #[.int .i64 n, .slice A es.length cap], .int .i64 a, .int .i64 b] w (NumG w (To.pathsI n es a b)) := by
  have OR : Hid (∀ W, Below w.heap.size w W → Calls Try.prog 16 #[.agg #[.int .i64 n, .slice A es.length cap]] W (OptG W (To.orderI n es))) := Lib.hid fun W hW => refOrder_any n A es cap hl W (h.on hW)
  have BE : Hid (∀ W v, Below w.heap.size w W → Calls Try.prog 35 #[.agg #[.int .i64 n, .slice A es.length cap], .int .i64 v] W (ListG W (Gr.behindI n es v))) := Lib.hid fun W v hW => refBehind_any n A es cap v hl W (h.on hW)
  generalize es.length = l at *
  clear h hl
  obtain ⟨W1, hW1⟩ : ∃ W1, W1 = w.alloc (.cells #[.int .i64 n, .slice A l cap] 39) := ⟨_, rfl⟩
  have P1 : Hid (W1.heap[w.heap.size]? = some (.cells #[.int .i64 n, .slice A l cap] 39 (0, 0))) := Lib.hid (by rw [hW1]; exact heap_alloc_new ..)
  have B1 : Hid (Below w.heap.size w W1) := Lib.hid (by rw [hW1]; exact (Below.refl _ _).alloc (Nat.le_refl _) _)
  obtain ⟨⟨x0, x1⟩, -⟩ := obG P1.out
  cases hg : To.okI n es with
  | false =>
    have OR1 : Hid (Calls Try.prog 16 #[.agg #[.int .i64 n, .slice A l cap]] W1 (OptN W1)) := Lib.hid ((OR.out _ B1.out).mono fun e w' h => by rw [To.orderI_no hg] at h; exact h.no)
    have E : Hid (To.pathsI n es a b = none) := Lib.hid (To.pathsI_no hg)
    clear hg
    go_enter Try.func18, Try.ntmps18
    go_wp2_with fail
    rw [← hW1]
    clear hW1
    (with_reducible refine OR1.out.mono ?_); rintro e w2 ⟨A2, c2, rfl, b2⟩
    go_wp2_with fail
    refine bodyPost_ret (v := .tuple #[.int .u64 0, .bool false]) (by simp [results, Try.results18, go_sem]) rfl ?_
    rw [E.out]
    exact ⟨rfl, Lib.hid (B1.out.trans (b2.out.mono B1.out.size))⟩
  | true =>
    obtain ⟨o, ho, hoI, HO0, hlen⟩ := To.orderI_yes hg
    obtain ⟨hG, hT⟩ := To.okI_iff.1 hg
    obtain ⟨N, hN⟩ : ∃ N : Nat, n = (N : Int) := ⟨n.toNat, by have := hG.n0; omega⟩
    have hN16 : N ≤ 16 := by have := hG.n16; omega
    subst hN
    rw [Int.toNat_natCast] at HO0 hlen
    have OR1 : Hid (Calls Try.prog 16 #[.agg #[.int .i64 (N : Int), .slice A l cap]] W1 (OptY W1 (Gr.ints o) N)) := Lib.hid ((OR.out _ B1.out).mono fun e w' h => by rw [hoI] at h; exact h.yes (by rw [Gr.ints_len, hlen]))
    by_cases hr : 0 ≤ a ∧ a < (N : Int) ∧ 0 ≤ b ∧ b < (N : Int)
    case neg =>
      have E : Hid (To.pathsI (N : Int) es a b = none) := Lib.hid (To.pathsI_out hr)
      clear hg hG hT ho hoI HO0 hlen OR BE
      go_enter Try.func18, Try.ntmps18
      go_wp2_with fail
      rw [← hW1]
      clear hW1
      (with_reducible refine OR1.out.mono ?_); rintro e w2 ⟨A2, c2, rfl, z2, b2⟩
      have P2 : Hid (w2.heap[w.heap.size]? = some (.cells #[.int .i64 (N : Int), .slice A l cap] 39 (0, 0))) := Lib.hid ((b2.out.block _ (lt_of_block P1.out)).trans P1.out)
      have B2 : Hid (Below w.heap.size w w2) := Lib.hid (B1.out.trans (b2.out.mono B1.out.size))
      clear x0 x1 z2 b2 OR1 P1 B1
      obtain ⟨⟨x0, x1⟩, -⟩ := obG P2.out
      have HR := Lib.hid hr
      clear hr
      by_cases h1 : 0 ≤ a
      · by_cases h2 : a < (N : Int)
        · by_cases h3 : 0 ≤ b
          · by_cases h4 : b < (N : Int)
            · exact absurd ⟨h1, h2, h3, h4⟩ HR.out
            · go_wp2_with fail
              refine bodyPost_ret (v := .tuple #[.int .u64 0, .bool false]) (by simp [results, Try.results18, go_sem]) rfl ?_
              rw [E.out]
              exact ⟨rfl, B2⟩
          · go_wp2_with fail
            refine bodyPost_ret (v := .tuple #[.int .u64 0, .bool false]) (by simp [results, Try.results18, go_sem]) rfl ?_
            rw [E.out]
            exact ⟨rfl, B2⟩
        · go_wp2_with fail
          refine bodyPost_ret (v := .tuple #[.int .u64 0, .bool false]) (by simp [results, Try.results18, go_sem]) rfl ?_
          rw [E.out]
          exact ⟨rfl, B2⟩
      · go_wp2_with fail
        refine bodyPost_ret (v := .tuple #[.int .u64 0, .bool false]) (by simp [results, Try.results18, go_sem]) rfl ?_
        rw [E.out]
        exact ⟨rfl, B2⟩
    case pos =>
    obtain ⟨an, han⟩ : ∃ an : Nat, a = (an : Int) := ⟨a.toNat, by omega⟩
    obtain ⟨bn, hbn⟩ : ∃ bn : Nat, b = (bn : Int) := ⟨b.toNat, by omega⟩
    subst han hbn
    have haN : an < N := by omega
    have hbN : bn < N := by omega
    have E : Hid (To.pathsI (N : Int) es (an : Int) (bn : Int) = some (To.pathsV (Gr.nat es) N an bn)) := Lib.hid (by rw [To.pathsI_yes hg hr, Int.toNat_natCast, Int.toNat_natCast, Int.toNat_natCast])
    have hlow := hG.low
    rw [Int.toNat_natCast] at hlow
    have GH := Lib.hid hG
    have TH := Lib.hid hT
    have LW := Lib.hid hlow
    have OH := Lib.hid HO0
    have LH := Lib.hid hlen
    have MK := fun W => made_U N (by omega) W
    clear hg ho hoI HO0 hlen hG hT OR hr hlow
    have haN' : (an : Int) < (N : Int) := by omega
    have hbN' : (bn : Int) < (N : Int) := by omega
    go_enter Try.func18, Try.ntmps18
    go_wp2_with fail
    rw [← hW1]
    clear hW1
    (with_reducible refine OR1.out.mono ?_); rintro e w2 ⟨A2, c2, rfl, z2, b2⟩
    have P2 : Hid (w2.heap[w.heap.size]? = some (.cells #[.int .i64 (N : Int), .slice A l cap] 39 (0, 0))) := Lib.hid ((b2.out.block _ (lt_of_block P1.out)).trans P1.out)
    have B2 : Hid (Below w.heap.size w w2) := Lib.hid (B1.out.trans (b2.out.mono B1.out.size))
    clear x0 x1
    obtain ⟨⟨x0, x1⟩, -⟩ := obG P2.out
    obtain ⟨W3, hW3⟩ : ∃ W3, W3 = w2.alloc (.cells ((madeCells #[.int .u64 0] N).setIfInBounds an (.int .u64 1)) 31) := ⟨_, rfl⟩
    obtain ⟨R, hR⟩ : ∃ R, R = w2.heap.size := ⟨_, rfl⟩
    have C3 : Hid (Below R w2 W3) := Lib.hid (by rw [hW3, hR]; exact (Below.refl _ _).alloc (Nat.le_refl _) _)
    have O3 : Hid (OwnU W3 R (some ⟨R, 0, none⟩) N ((List.replicate N 0).set an 1)) := Lib.hid (by rw [hW3, hR, ← alloc_set]; exact (OwnU.made w2 N (by omega)).stored an 1)
    have R3 : Hid (R < W3.heap.size) := Lib.hid (by rw [hW3, hR]; simp)
    have XR : Hid (w.heap.size < R) := Lib.hid (by rw [hR]; exact lt_of_block P2.out)
    have ZO : Hid (∀ W, Below R w2 W → Zs W R A2 (Gr.ints o)) := Lib.hid fun W hW => by
      rw [hR] at hW ⊢
      exact z2.out.below hW
    have PX : Hid (∀ W, Below R w2 W → (W.cell? ⟨w.heap.size, 0, none⟩ = some (.int .i64 (N : Int)) ∧ W.cell? ⟨w.heap.size, 1, none⟩ = some (.slice A l cap))) := Lib.hid fun W hW => by
      exact (obG ((hW.block _ XR.out).trans P2.out)).1
    have BX : Hid (∀ W, Below R w2 W → Below w.heap.size w W) := Lib.hid fun W hW => B2.out.trans (hW.mono (Nat.le_of_lt XR.out))
    have hv3 := (OwnU.made w2 N (by omega)).val (i := an) (by simpa using haN)
    have hf3 := (OwnU.made w2 N (by omega)).thaw an
    clear b2 z2 OR1 P1 B1
    go_wp2_with fail
    rw [← hW3, ← hR]
    clear hW3 hR MK x0 x1 hv3 hf3
    generalize decide ((an : Int) < 0) = t1
    generalize decide ((bn : Int) < 0) = t2
    generalize decide (N ≤ an) = t3
    generalize decide (N ≤ bn) = t4
    generalize decide ((N : Int) ≤ (an : Int)) = t5
    generalize decide ((N : Int) ≤ (bn : Int)) = t6
    go_loopw [11] (fun iv wr => ∃ (i : Nat) (V : List Nat), i ≤ N ∧ iv = .int .i64 i ∧ Hid (To.Pv (Gr.nat es) N an o i 0 [] V) ∧ Hid (OwnU wr R (some ⟨R, 0, none⟩) N V) ∧ Hid (Below R w2 wr) ∧ Hid (R < wr.heap.size)) (fun iv _ => N - (intOf iv).toNat)
    case atStart => exact ⟨0, _, Nat.zero_le _, rfl, Lib.hid (To.Pv.zero o haN 0), O3, C3, R3⟩
    case round =>
      obtain ⟨i, V, hi, rfl, HV, HO, HB, HR⟩ := hrel
      obtain ⟨wo, hwo⟩ : ∃ wo, wo = wr := ⟨_, rfl⟩
      rw [← hwo] at HO HB HR ⊢
      clear hwo O3 C3 R3
      by_cases hlt : i < N
      · have hlt' : (i : Int) < (N : Int) := by omega
        obtain ⟨x0, x1⟩ := PX.out _ HB.out
        have hio : i < o.length := by rw [LH.out]; exact hlt
        obtain ⟨q, hq⟩ : ∃ q, q = o.getD i 0 := ⟨_, rfl⟩
        obtain ⟨b0, off, y0, rfl, hb, hc, hy, hy0, hy1⟩ := (ZO.out _ HB.out).at_ (k := i) (by rw [Gr.ints_len]; exact hio)
        obtain rfl : y0 = (q : Int) := by rw [← hy.out, Gr.ints_get, hq]
        have hqN : q < N := by rw [hq]; exact OH.out.low _ (getD_mem hio)
        have BI : Hid (Calls Try.prog 35 #[.agg #[.int .i64 (N : Int), .slice A l cap], .int .i64 (q : Int)] wo.drew (ListG wo.drew (Gr.behindI (N : Int) es (q : Int)))) := Lib.hid (BE.out _ _ ((BX.out _ HB.out).drew))
        have HV1 : Hid (To.Pv (Gr.nat es) N an o i q [] V) := Lib.hid HV.out.none_
        have HQ := Lib.hid hq
        clear hy hy0 hy1 HV hq
        have CQ : Hid (∀ W, Below R w2 W → W.cell? ⟨b0, off + i, none⟩ = some (.int .i64 (q : Int))) := Lib.hid fun W hW => (hW.cell (p := ⟨b0, off + i, none⟩) hb.out).trans ((HB.out.cell (p := ⟨b0, off + i, none⟩) hb.out).symm.trans hc)
        have S0 := Lib.hid (And.intro x0 (And.intro x1 hc))
        go_wp2_with fail
        go_region_held3 (fun w' => w'.cell? ⟨w.heap.size, 0, none⟩ = some (.int .i64 (N : Int)) ∧ w'.cell? ⟨w.heap.size, 1, none⟩ = some (.slice A l cap) ∧ w'.cell? ⟨b0, off + i, none⟩ = some (.int .i64 (q : Int))) ((first | exact S0.out | exact S5.out | go_keep))
          (first
            | (go_simp; go_at_call 35; (with_reducible refine BI.out.mono ?_); rintro e w5 ⟨A5, c5, rfl, o5, b5⟩; have B5 : Hid (Below R w2 w5) := Lib.hid ((HB.out.drew).trans (b5.out.mono (Nat.le_of_lt HR.out))); have S5 := Lib.hid (And.intro (PX.out _ B5.out).1 (And.intro (PX.out _ B5.out).2 (CQ.out _ B5.out)))))
        have HO5 : Hid (OwnU w5 R (some ⟨R, 0, none⟩) N V) := Lib.hid ((show OwnU wo.drew R (some ⟨R, 0, none⟩) N V from HO.out).grew b5.out (Nat.le_refl _))
        have R5 : Hid (R < w5.heap.size) := Lib.hid (Nat.lt_of_lt_of_le HR.out b5.out.size)
        obtain ⟨bv, hbv⟩ : ∃ bv, bv = Gr.behindV (Gr.nat es) N q := ⟨_, rfl⟩
        obtain ⟨lz, hlz⟩ : ∃ lz, lz = bv.length := ⟨_, rfl⟩
        have ZE : Hid (Gr.behindI (N : Int) es (q : Int) = Gr.ints bv) := Lib.hid (by rw [Gr.behindI_eq GH.out, hbv])
        have O5 : Hid (OwnZ w5 wo.heap.size A5 c5 (Gr.ints bv)) := Lib.hid (by have := o5.out; rwa [ZE.out] at this)
        have BV := Lib.hid hbv
        have ND : Hid bv.Nodup := Lib.hid (by rw [hbv]; exact To.nodup_behind _ _ _)
        have YP : Hid (∀ y ∈ bv, y < N ∧ y ≠ q) := Lib.hid fun y hy => by
          rw [hbv] at hy
          have he := (Gr.mem_behind LW.out).1 hy
          exact ⟨(LW.out _ he).2, fun h => by
            subst h
            have := TH.out 1 y (Nat.le_refl _)
            rw [Gr.rk_one.2 he] at this; cases this⟩
        have hlz16 : lz ≤ 16 := by rw [hlz, hbv]; exact Nat.le_trans (To.behind_len _ _ _) hN16
        have LZ := Lib.hid hlz
        rw [ZE.out, Gr.ints_len, ← hlz]
        clear hbv hlz o5 b5 BI S0 S5 x0 x1 hc HO ZE
        go_wp2_with fail
        go_loopw [13] (fun iv wr => ∃ (k : Nat) (V' : List Nat), k ≤ lz ∧ iv = .int .i64 k ∧ Hid (To.Pv (Gr.nat es) N an o i q (bv.take k) V') ∧ Hid (OwnU wr R (some ⟨R, 0, none⟩) N V') ∧ Hid (But w5.heap.size R w5 wr)) (fun iv _ => lz - (intOf iv).toNat)
        case atStart => exact ⟨0, V, Nat.zero_le _, rfl, HV1, HO5, Lib.hid (But.refl _ _ _)⟩
        case round =>
          obtain ⟨k, V', hk, rfl, HV', HO', HB'⟩ := hrel
          have BR : Hid (Below R w2 wr) := Lib.hid (B5.out.trans (HB'.out.below (Nat.le_of_lt R5.out) (Nat.le_refl _)))
          by_cases hlk : k < lz
          · have hlk' : (k : Int) < (lz : Int) := by omega
            have hka : k < bv.length := by rw [← LZ.out]; exact hlk
            obtain ⟨g5, rfl, hg5, hg6⟩ := O5.out.shape (by rw [Gr.ints_len]; omega)
            have hvy := (O5.out.keep (w' := wr) fun a ha => by
              injection ha with ha
              subst ha
              exact HB'.out.block g5 hg6 (by have := HR.out; omega)).val (i := k) (by rw [Gr.ints_len]; exact hka)
            obtain ⟨y, hy⟩ : ∃ y, y = bv.getD k 0 := ⟨_, rfl⟩
            rw [Gr.ints_get, ← hy] at hvy
            obtain ⟨hyN, hyq⟩ := YP.out y (by rw [hy]; exact getD_mem hka)
            have hyN' : (y : Int) < (N : Int) := by omega
            have hqN' : (q : Int) < (N : Int) := by omega
            have hyt : y ∉ bv.take k := fun hm => by
              obtain ⟨j, hj, e⟩ := List.getElem_of_mem hm
              rw [List.length_take] at hj
              rw [List.getElem_take] at e
              have e2 : bv[j] = bv[k] := by rw [e, hy, List.getD_eq_getElem?_getD, List.getElem?_eq_getElem hka]; rfl
              have e3 : bv.idxOf bv[j] = bv.idxOf bv[k] := by rw [e2]
              rw [ND.out.idxOf_getElem, ND.out.idxOf_getElem] at e3
              omega
            have hqt : q ∉ bv.take k := fun hm => (YP.out q (List.mem_of_mem_take hm)).2 rfl
            have hcq := CQ.out _ BR.out
            have hdy := HO'.out.val (i := y) (by rw [HV'.out.len]; exact hyN)
            have hdq := HO'.out.val (i := q) (by rw [HV'.out.len]; exact hqN)
            have hN0 : 0 < N := by omega
            have hvq : V'.getD q 0 = To.pathsV (Gr.nat es) N an q := by
              rw [HV'.out.at_ q hqN, if_neg hqt, Nat.add_zero]
              exact To.acc_full LW.out TH.out hN0 (fun c hc => by rw [HQ.out] at hc; exact OH.out.behind i hio c hc)
            have hle1 := To.acc_le (E := Gr.nat es) (a := an) (o := o) (i := i) (x := y) LW.out TH.out hN0 hN16
            have hle2 := To.paths_le (a := an) (b := q) LW.out TH.out hN16
            have hvy2 : V'.getD y 0 = To.acc (Gr.nat es) N an o i y := by rw [HV'.out.at_ y hyN, if_neg hyt, Nat.add_zero]
            have V2 : Hid (To.Pv (Gr.nat es) N an o i q (bv.take (k + 1)) (V'.set y (V'.getD y 0 + To.pathsV (Gr.nat es) N an q))) := Lib.hid (by rw [take_getD hka hy.symm]; exact HV'.out.put hyN hyt)
            rw [hvq] at hdq
            rw [← hvy2] at hle1
            obtain ⟨pq, hpq⟩ : ∃ pq, pq = To.pathsV (Gr.nat es) N an q := ⟨_, rfl⟩
            obtain ⟨py, hpy⟩ : ∃ py, py = V'.getD y 0 := ⟨_, rfl⟩
            rw [← hpq] at hdq hle2 V2
            rw [← hpy] at hdy hle1 V2
            have hf := HO'.out.thaw y
            have hw : IntKind.u64.wrap ((py : Int) + (pq : Int)) = ((py + pq : Nat) : Int) := by
              rw [← Int.natCast_add]
              exact IntWalk.u64_in _ (by omega)
            have hle3 : py + pq ≤ 2305843009213693952 := by omega
            have S0 := Lib.hid (And.intro hvy (And.intro hdy (And.intro hcq hdq)))
            clear hvq hvy2 hpq hpy hle1 hle2 hy hyt hqt hka hN0 BR hyq hvy hdy hcq hdq
            go_wp2_with fail
            refine wp_region_C (fun w' => w'.cell? ⟨g5, k, none⟩ = some (.int .i64 (y : Int)) ∧ w'.cell? ⟨R, y, none⟩ = some (.int .u64 (py : Int)) ∧ w'.cell? ⟨b0, off + i, none⟩ = some (.int .i64 (q : Int)) ∧ w'.cell? ⟨R, q, none⟩ = some (.int .u64 (pq : Int))) 21 (by kernel_rfl) ?_
            have hS0 : (fun w' : World => w'.cell? ⟨g5, k, none⟩ = some (.int .i64 (y : Int)) ∧ w'.cell? ⟨R, y, none⟩ = some (.int .u64 (py : Int)) ∧ w'.cell? ⟨b0, off + i, none⟩ = some (.int .i64 (q : Int)) ∧ w'.cell? ⟨R, q, none⟩ = some (.int .u64 (pq : Int))) wr.drew := S0.out
            refine wpAnyC_take (i := 0) (oi := ?o1) (v := ?v1) ?hi1 (by kernel_rfl) (by kernel_rfl) (by kernel_rfl) ?hQ1 (by kernel_rfl) (by decide) (by kernel_rfl) (Or.inl ⟨?hg1, ?hy1⟩) (by assumption) ?rest1
            case hi1 => (simp only [List.getElem?_toArray, List.getElem?_cons_zero]; exact rfl)
            case hQ1 => exact fun _ _ _ h => h
            case hg1 => rfl
            case hy1 => (intro w' hSw; (try dsimp only at hSw); go_simp; try with_reducible rfl)
            try simp only [Act.put, List.setIfInBounds_toArray, List.set_cons_zero, List.set_cons_succ]
            refine wpAnyC_take (i := 1) (oi := ?o2) (v := ?v2) ?hi2 (by kernel_rfl) (by kernel_rfl) (by kernel_rfl) ?hQ2 (by kernel_rfl) (by decide) (by kernel_rfl) (Or.inl ⟨?hg2, ?hy2⟩) (by assumption) ?rest2
            case hi2 => (simp only [List.getElem?_toArray, List.getElem?_cons_zero, List.getElem?_cons_succ]; exact rfl)
            case hQ2 => exact fun _ _ _ h => h
            case hg2 => rfl
            case hy2 => (intro w' hSw; (try dsimp only at hSw); go_simp; try with_reducible rfl)
            try simp only [Act.put, List.setIfInBounds_toArray, List.set_cons_zero, List.set_cons_succ]
            refine wpAnyC_take (i := 2) (oi := ?o3) (v := ?v3) ?hi3 (by kernel_rfl) (by kernel_rfl) (by kernel_rfl) ?hQ3 (by kernel_rfl) (by decide) (by kernel_rfl) (Or.inl ⟨?hg3, ?hy3⟩) (by assumption) ?rest3
            case hi3 => (simp only [List.getElem?_toArray, List.getElem?_cons_zero, List.getElem?_cons_succ]; exact rfl)
            case hQ3 => exact fun _ _ _ h => h
            case hg3 => rfl
            case hy3 => (intro w' hSw; (try dsimp only at hSw); go_simp; try with_reducible rfl)
            try simp only [Act.put, List.setIfInBounds_toArray, List.set_cons_zero, List.set_cons_succ]
            refine wpAnyC_take (i := 3) (oi := ?o4) (v := ?v4) ?hi4 (by kernel_rfl) (by kernel_rfl) (by kernel_rfl) ?hQ4 (by kernel_rfl) (by decide) (by kernel_rfl) (Or.inl ⟨?hg4, ?hy4⟩) (by assumption) ?rest4
            case hi4 => (simp only [List.getElem?_toArray, List.getElem?_cons_zero, List.getElem?_cons_succ]; exact rfl)
            case hQ4 => exact fun _ _ _ h => h
            case hg4 => rfl
            case hy4 => (intro w' hSw; (try dsimp only at hSw); go_simp; try with_reducible rfl)
            try simp only [Act.put, List.setIfInBounds_toArray, List.set_cons_zero, List.set_cons_succ]
            refine wpAnyC_take (i := 4) (oi := ?o5) (v := ?v5) ?hi5 (by kernel_rfl) (by kernel_rfl) (by kernel_rfl) ?hQ5 (by kernel_rfl) (by decide) (by kernel_rfl) (Or.inl ⟨?hg5, ?hy5⟩) (by assumption) ?rest5
            case hi5 => (simp only [List.getElem?_toArray, List.getElem?_cons_zero, List.getElem?_cons_succ]; exact rfl)
            case hQ5 => exact fun _ _ _ h => h
            case hg5 => rfl
            case hy5 => (intro w' hSw; (try dsimp only at hSw); go_simp; try with_reducible rfl)
            try simp only [Act.put, List.setIfInBounds_toArray, List.set_cons_zero, List.set_cons_succ]
            refine wpAnyC_take (i := 5) (oi := ?o6) (v := ?v6) ?hi6 (by kernel_rfl) (by kernel_rfl) (by kernel_rfl) ?hQ6 (by kernel_rfl) (by decide) (by kernel_rfl) (Or.inl ⟨?hg6, ?hy6⟩) (by assumption) ?rest6
            case hi6 => (simp only [List.getElem?_toArray, List.getElem?_cons_zero, List.getElem?_cons_succ]; exact rfl)
            case hQ6 => exact fun _ _ _ h => h
            case hg6 => rfl
            case hy6 => (intro w' hSw; (try dsimp only at hSw); go_simp; try with_reducible rfl)
            try simp only [Act.put, List.setIfInBounds_toArray, List.set_cons_zero, List.set_cons_succ]
            refine wpAnyC_take (i := 6) (oi := ?o7) (v := ?v7) ?hi7 (by kernel_rfl) (by kernel_rfl) (by kernel_rfl) ?hQ7 (by kernel_rfl) (by decide) (by kernel_rfl) (Or.inl ⟨?hg7, ?hy7⟩) (by assumption) ?rest7
            case hi7 => (simp only [List.getElem?_toArray, List.getElem?_cons_zero, List.getElem?_cons_succ]; exact rfl)
            case hQ7 => exact fun _ _ _ h => h
            case hg7 => rfl
            case hy7 => (intro w' hSw; (try dsimp only at hSw); go_simp; try with_reducible rfl)
            try simp only [Act.put, List.setIfInBounds_toArray, List.set_cons_zero, List.set_cons_succ]
            refine wpAnyC_take (i := 7) (oi := ?o8) (v := ?v8) ?hi8 (by kernel_rfl) (by kernel_rfl) (by kernel_rfl) ?hQ8 (by kernel_rfl) (by decide) (by kernel_rfl) (Or.inl ⟨?hg8, ?hy8⟩) (by assumption) ?rest8
            case hi8 => (simp only [List.getElem?_toArray, List.getElem?_cons_zero, List.getElem?_cons_succ]; exact rfl)
            case hQ8 => exact fun _ _ _ h => h
            case hg8 => rfl
            case hy8 => (intro w' hSw; (try dsimp only at hSw); go_simp; try with_reducible rfl)
            try simp only [Act.put, List.setIfInBounds_toArray, List.set_cons_zero, List.set_cons_succ]
            refine wpAnyC_take (i := 8) (oi := ?o9) (v := ?v9) ?hi9 (by kernel_rfl) (by kernel_rfl) (by kernel_rfl) ?hQ9 (by kernel_rfl) (by decide) (by kernel_rfl) (Or.inl ⟨?hg9, ?hy9⟩) (by assumption) ?rest9
            case hi9 => (simp only [List.getElem?_toArray, List.getElem?_cons_zero, List.getElem?_cons_succ]; exact rfl)
            case hQ9 => exact fun _ _ _ h => h
            case hg9 => rfl
            case hy9 => (intro w' hSw; (try dsimp only at hSw); go_simp; try with_reducible rfl)
            try simp only [Act.put, List.setIfInBounds_toArray, List.set_cons_zero, List.set_cons_succ]
            refine wpAnyC_take (i := 9) (oi := ?o10) (v := ?v10) ?hi10 (by kernel_rfl) (by kernel_rfl) (by kernel_rfl) ?hQ10 (by kernel_rfl) (by decide) (by kernel_rfl) (Or.inl ⟨?hg10, ?hy10⟩) (by assumption) ?rest10
            case hi10 => (simp only [List.getElem?_toArray, List.getElem?_cons_zero, List.getElem?_cons_succ]; exact rfl)
            case hQ10 => exact fun _ _ _ h => h
            case hg10 => rfl
            case hy10 => (intro w' hSw; (try dsimp only at hSw); go_simp; try with_reducible rfl)
            try simp only [Act.put, List.setIfInBounds_toArray, List.set_cons_zero, List.set_cons_succ]
            refine wpAnyC_take (i := 10) (oi := ?o11) (v := ?v11) ?hi11 (by kernel_rfl) (by kernel_rfl) (by kernel_rfl) ?hQ11 (by kernel_rfl) (by decide) (by kernel_rfl) (Or.inl ⟨?hg11, ?hy11⟩) (by assumption) ?rest11
            case hi11 => (simp only [List.getElem?_toArray, List.getElem?_cons_zero, List.getElem?_cons_succ]; exact rfl)
            case hQ11 => exact fun _ _ _ h => h
            case hg11 => rfl
            case hy11 => (intro w' hSw; (try dsimp only at hSw); go_simp; try with_reducible rfl)
            try simp only [Act.put, List.setIfInBounds_toArray, List.set_cons_zero, List.set_cons_succ]
            refine wpAnyC_take (i := 11) (oi := ?o12) (v := ?v12) ?hi12 (by kernel_rfl) (by kernel_rfl) (by kernel_rfl) ?hQ12 (by kernel_rfl) (by decide) (by kernel_rfl) (Or.inl ⟨?hg12, ?hy12⟩) (by assumption) ?rest12
            case hi12 => (simp only [List.getElem?_toArray, List.getElem?_cons_zero, List.getElem?_cons_succ]; exact rfl)
            case hQ12 => exact fun _ _ _ h => h
            case hg12 => rfl
            case hy12 => (intro w' hSw; (try dsimp only at hSw); go_simp; try with_reducible rfl)
            try simp only [Act.put, List.setIfInBounds_toArray, List.set_cons_zero, List.set_cons_succ]
            refine wpAnyC_take (i := 12) (oi := ?o13) (v := ?v13) ?hi13 (by kernel_rfl) (by kernel_rfl) (by kernel_rfl) ?hQ13 (by kernel_rfl) (by decide) (by kernel_rfl) (Or.inl ⟨?hg13, ?hy13⟩) (by assumption) ?rest13
            case hi13 => (simp only [List.getElem?_toArray, List.getElem?_cons_zero, List.getElem?_cons_succ]; exact rfl)
            case hQ13 => exact fun _ _ _ h => h
            case hg13 => rfl
            case hy13 => (intro w' hSw; (try dsimp only at hSw); go_simp; try with_reducible rfl)
            try simp only [Act.put, List.setIfInBounds_toArray, List.set_cons_zero, List.set_cons_succ]
            refine wpAnyC_take (i := 13) (oi := ?o14) (v := ?v14) ?hi14 (by kernel_rfl) (by kernel_rfl) (by kernel_rfl) ?hQ14 (by kernel_rfl) (by decide) (by kernel_rfl) (Or.inl ⟨?hg14, ?hy14⟩) (by assumption) ?rest14
            case hi14 => (simp only [List.getElem?_toArray, List.getElem?_cons_zero, List.getElem?_cons_succ]; exact rfl)
            case hQ14 => exact fun _ _ _ h => h
            case hg14 => rfl
            case hy14 => (intro w' hSw; (try dsimp only at hSw); go_simp; try with_reducible rfl)
            try simp only [Act.put, List.setIfInBounds_toArray, List.set_cons_zero, List.set_cons_succ]
            refine wpAnyC_take (i := 14) (oi := ?o15) (v := ?v15) ?hi15 (by kernel_rfl) (by kernel_rfl) (by kernel_rfl) ?hQ15 (by kernel_rfl) (by decide) (by kernel_rfl) (Or.inl ⟨?hg15, ?hy15⟩) (by assumption) ?rest15
            case hi15 => (simp only [List.getElem?_toArray, List.getElem?_cons_zero, List.getElem?_cons_succ]; exact rfl)
            case hQ15 => exact fun _ _ _ h => h
            case hg15 => rfl
            case hy15 => (intro w' hSw; (try dsimp only at hSw); go_simp; try with_reducible rfl)
            try simp only [Act.put, List.setIfInBounds_toArray, List.set_cons_zero, List.set_cons_succ]
            refine wpAnyC_take (i := 15) (oi := ?o16) (v := ?v16) ?hi16 (by kernel_rfl) (by kernel_rfl) (by kernel_rfl) ?hQ16 (by kernel_rfl) (by decide) (by kernel_rfl) (Or.inl ⟨?hg16, ?hy16⟩) (by assumption) ?rest16
            case hi16 => (simp only [List.getElem?_toArray, List.getElem?_cons_zero, List.getElem?_cons_succ]; exact rfl)
            case hQ16 => exact fun _ _ _ h => h
            case hg16 => rfl
            case hy16 => (intro w' hSw; (try dsimp only at hSw); go_simp; try with_reducible rfl)
            try simp only [Act.put, List.setIfInBounds_toArray, List.set_cons_zero, List.set_cons_succ]
            refine wpAnyC_take (i := 16) (oi := ?o17) (v := ?v17) ?hi17 (by kernel_rfl) (by kernel_rfl) (by kernel_rfl) ?hQ17 (by kernel_rfl) (by decide) (by kernel_rfl) (Or.inl ⟨?hg17, ?hy17⟩) (by assumption) ?rest17
            case hi17 => (simp only [List.getElem?_toArray, List.getElem?_cons_zero, List.getElem?_cons_succ]; exact rfl)
            case hQ17 => exact fun _ _ _ h => h
            case hg17 => rfl
            case hy17 => (intro w' hSw; (try dsimp only at hSw); go_simp; try with_reducible rfl)
            try simp only [Act.put, List.setIfInBounds_toArray, List.set_cons_zero, List.set_cons_succ]
            refine wpAnyC_take (i := 17) (oi := ?o18) (v := ?v18) ?hi18 (by kernel_rfl) (by kernel_rfl) (by kernel_rfl) ?hQ18 (by kernel_rfl) (by decide) (by kernel_rfl) (Or.inl ⟨?hg18, ?hy18⟩) (by assumption) ?rest18
            case hi18 => (simp only [List.getElem?_toArray, List.getElem?_cons_zero, List.getElem?_cons_succ]; exact rfl)
            case hQ18 => exact fun _ _ _ h => h
            case hg18 => rfl
            case hy18 => (intro w' hSw; (try dsimp only at hSw); go_simp; try with_reducible rfl)
            try simp only [Act.put, List.setIfInBounds_toArray, List.set_cons_zero, List.set_cons_succ]
            refine wpAnyC_take (i := 18) (oi := ?o19) (v := ?v19) ?hi19 (by kernel_rfl) (by kernel_rfl) (by kernel_rfl) ?hQ19 (by kernel_rfl) (by decide) (by kernel_rfl) (Or.inl ⟨?hg19, ?hy19⟩) (by assumption) ?rest19
            case hi19 => (simp only [List.getElem?_toArray, List.getElem?_cons_zero, List.getElem?_cons_succ]; exact rfl)
            case hQ19 => exact fun _ _ _ h => h
            case hg19 => rfl
            case hy19 => (intro w' hSw; (try dsimp only at hSw); go_simp; try with_reducible rfl)
            try simp only [Act.put, List.setIfInBounds_toArray, List.set_cons_zero, List.set_cons_succ]
            refine wpAnyC_take (i := 19) (oi := ?o20) (v := ?v20) ?hi20 (by kernel_rfl) (by kernel_rfl) (by kernel_rfl) ?hQ20 (by kernel_rfl) (by decide) (by kernel_rfl) (Or.inl ⟨?hg20, ?hy20⟩) (by assumption) ?rest20
            case hi20 => (simp only [List.getElem?_toArray, List.getElem?_cons_zero, List.getElem?_cons_succ]; exact rfl)
            case hQ20 => exact fun _ _ _ h => h
            case hg20 => rfl
            case hy20 => (intro w' hSw; (try dsimp only at hSw); go_simp; try with_reducible rfl)
            try simp only [Act.put, List.setIfInBounds_toArray, List.set_cons_zero, List.set_cons_succ]
            refine wpAnyC_take (i := 20) (oi := ?o21) (v := ?v21) ?hi21 (by kernel_rfl) (by kernel_rfl) (by kernel_rfl) ?hQ21 (by kernel_rfl) (by decide) (by kernel_rfl) (Or.inl ⟨?hg21, ?hy21⟩) (by assumption) ?rest21
            case hi21 => (simp only [List.getElem?_toArray, List.getElem?_cons_zero, List.getElem?_cons_succ]; exact rfl)
            case hQ21 => exact fun _ _ _ h => h
            case hg21 => rfl
            case hy21 => (intro w' hSw; (try dsimp only at hSw); go_simp; try with_reducible rfl)
            try simp only [Act.put, List.setIfInBounds_toArray, List.set_cons_zero, List.set_cons_succ]
            have hdy := S0.out.2.1
            refine wpAnyC_one (i := 21) (oi := ?o22) ?hi22 (by kernel_rfl) ?step22
            case hi22 => (simp only [List.getElem?_toArray, List.getElem?_cons_zero, List.getElem?_cons_succ]; exact rfl)
            intro K' hK
            go_simp
            refine hK.out _ _ ?_ (fun hHeld => ?_)
            · exact fun h => (by cases h)
            clear hK K' hHeld
            try simp only [Act.put, List.setIfInBounds_toArray, List.set_cons_zero, List.set_cons_succ]
            clear hdy
            refine wpAnyC_done (by kernel_rfl) ?_ _
            go_wp2
            go_roundw
            case rel => exact ⟨k + 1, _, by omega, by go_num, V2, Lib.hid (OwnU.stored (w := wr.drew) HO'.out y (py + pq)), Lib.hid (HB'.out.drew.trans (But.set _ _ _ _ _))⟩
            case measure => simp [intOf]; omega
          · obtain rfl : lz = k := by omega
            have V2 : Hid (To.Pv (Gr.nat es) N an o (i + 1) 0 [] V') := Lib.hid (To.Pv.next LW.out OH.out hio (by
              have h := HV'.out
              rw [LZ.out, List.take_length, BV.out] at h
              rw [← HQ.out]; exact h) 0)
            go_wp2
            go_roundw
            case rel => exact ⟨i + 1, V', by omega, by go_num, V2, HO', BR, Lib.hid (Nat.lt_of_lt_of_le R5.out HB'.out.size)⟩
            case measure => simp [intOf]; omega
      · obtain rfl : N = i := by omega
        have hvb := HO.out.val (i := bn) (by rw [HV.out.len]; exact hbN)
        have hN0 : 0 < N := by omega
        have EV : V.getD bn 0 = To.pathsV (Gr.nat es) N an bn := by
          rw [HV.out.at_ bn hbN]
          rw [To.acc_full LW.out TH.out hN0 (fun c hc => by
            rw [← LH.out, List.take_length]
            exact To.nodup_full OH.out.once OH.out.low LH.out c (LW.out _ hc).1)]
          rfl
        rw [EV] at hvb
        obtain ⟨pq, hpq⟩ : ∃ pq, pq = To.pathsV (Gr.nat es) N an bn := ⟨_, rfl⟩
        rw [← hpq] at hvb E
        clear EV hpq
        go_wp2_with fail
        refine bodyPost_ret (v := .tuple #[.int .u64 (pq : Int), .bool true]) (by simp [results, Try.results18, go_sem]) rfl ?_
        rw [E.out]
        exact ⟨rfl, Lib.hid (BX.out _ HB.out)⟩
end Go.Proofs.Ytgeefkfolejbnaa
