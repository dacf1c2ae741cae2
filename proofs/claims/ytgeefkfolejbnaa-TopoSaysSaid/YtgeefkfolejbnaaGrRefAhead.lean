/-
  The reference: has, Ahead and Behind at every graph.
-/
import Derived.Test.YtgeefkfolejbnaaGrRefGood
import Derived.Test.YtgeefkfolejbnaaGrReach
namespace Go.Proofs.Ytgeefkfolejbnaa
open Go.RowKit
theorem Gr.has_next {es : Gr.EI} {k : Nat} {x y a b : Int} (hk : k < es.length) (he : es.getD k (0, 0) = (x, y)) : (es.take (k + 1)).contains (a, b) = ((es.take k).contains (a, b) || ((x == a) && (y == b))) := by
  rw [Gr.take_next hk he]
  rw [Bool.eq_iff_iff, List.contains_iff_mem, List.mem_append, Bool.or_eq_true, List.contains_iff_mem]
  simp only [List.mem_singleton, Prod.mk.injEq, Bool.and_eq_true, beq_iff_eq]
  constructor
  · rintro (h | ⟨h1, h2⟩)
    · exact .inl h
    · exact .inr ⟨h1.symm, h2.symm⟩
  · rintro (h | ⟨h1, h2⟩)
    · exact .inl h
    · exact .inr ⟨h1.symm, h2.symm⟩
theorem Gr.has_at {es : Gr.EI} {k : Nat} {x y : Int} (hk : k < es.length) (he : es.getD k (0, 0) = (x, y)) : es.contains (x, y) = true := by
  rw [List.contains_iff_mem]
  rw [List.getD_eq_getElem?_getD, List.getElem?_eq_getElem hk] at he
  rw [← he]; exact List.getElem_mem hk
set_option maxHeartbeats 4000000 in
theorem refHas_any (n : Int) (A : Option Addr) (es : Gr.EI) (cap : Nat) (a c : Int) (hl : es.length ≤ 1000000) (w : World) (h : Edg w w.heap.size A es) :
    Calls Try.prog 43 #[.agg #[.int .i64 n, .slice A es.length cap], .int .i64 a, .int .i64 c] w (BoolG w (es.contains (a, c))) := by
  have H := Lib.hid h
  obtain ⟨r, hr⟩ : ∃ r, r = es.contains (a, c) := ⟨_, rfl⟩
  have HR := Lib.hid hr
  rw [← hr]
  clear hr
  obtain ⟨l, hlen⟩ : ∃ l, l = es.length := ⟨_, rfl⟩
  have HN := Lib.hid hlen
  rw [← hlen] at hl ⊢
  clear h hlen
  obtain ⟨W1, hW1⟩ : ∃ W1, W1 = w.alloc (.cells #[.int .i64 n, .slice A l cap] 39) := ⟨_, rfl⟩
  have P1 : Hid (W1.heap[w.heap.size]? = some (.cells #[.int .i64 n, .slice A l cap] 39 (0, 0))) := Lib.hid (by rw [hW1]; exact heap_alloc_new ..)
  have B1 : Hid (Below w.heap.size w W1) := Lib.hid (by rw [hW1]; exact (Below.refl _ _).alloc (Nat.le_refl _) _)
  go_enter Try.func43, Try.ntmps43
  go_wp2_with fail
  rw [← hW1]
  clear hW1
  obtain ⟨⟨x0, x1⟩, -⟩ := obG P1.out
  have EW := Lib.hid (H.out.below B1.out)
  go_wp2_with fail
  go_loop [7] (fun iv => ∃ k : Nat, k ≤ l ∧ iv = .int .i64 k ∧ Hid ((es.take k).contains (a, c) = false)) (fun iv => l - (intOf iv).toNat)
  case atStart => exact ⟨0, Nat.zero_le _, rfl, Lib.hid (by simp)⟩
  case round =>
    obtain ⟨k, hk, rfl, HC⟩ := hrel
    by_cases hlt : k < l
    · have hlt' : (k : Int) < (l : Int) := by omega
      obtain ⟨b, off, x, y, rfl, hb, hc0, hc1, he, hx, hy⟩ := EW.out.at_ (k := k) (by rw [← HN.out]; exact hlt)
      have HI := Lib.hid (show k < es.length by rw [← HN.out]; exact hlt)
      have NX := Lib.hid (Gr.has_next (a := a) (b := c) HI.out he.out)
      clear hx hy
      by_cases h1 : x = a
      · subst h1
        by_cases h2 : y = c
        · subst h2
          have G0 : Hid (es.contains (x, y) = true) := Lib.hid (Gr.has_at HI.out he.out)
          go_wp2
          go_ret
          exact ⟨ret_bool (G0.out.symm.trans HR.out.symm), B1⟩
        · have hd : (y == c) = false := by simpa using h2
          have HC' : Hid ((es.take (k + 1)).contains (x, c) = false) := Lib.hid (by rw [NX.out, HC.out, hd]; simp)
          clear h2
          go_wp2
          go_round
          case rel => exact ⟨k + 1, by omega, by go_num, HC'⟩
          case measure => simp [intOf]; omega
      · have hd : (x == a) = false := by simpa using h1
        have HC' : Hid ((es.take (k + 1)).contains (a, c) = false) := Lib.hid (by rw [NX.out, HC.out, hd]; simp)
        clear h1
        go_wp2
        go_round
        case rel => exact ⟨k + 1, by omega, by go_num, HC'⟩
        case measure => simp [intOf]; omega
    · obtain rfl : k = l := by omega
      have G0 : Hid (es.contains (a, c) = false) := Lib.hid (by have := HC.out; rwa [HN.out, List.take_length] at this)
      go_wp2
      go_ret
      exact ⟨ret_bool (G0.out.symm.trans HR.out.symm), B1⟩

def Gr.aheadRK (es : Gr.EI) (v : Int) (k : Nat) : List Int := Gr.ints ((List.range k).filter fun a => es.contains ((a : Int), v))
theorem Gr.aheadRK_next (es : Gr.EI) (v : Int) (k : Nat) : Gr.aheadRK es v (k + 1) = Gr.aheadRK es v k ++ (if es.contains ((k : Int), v) then [(k : Int)] else []) := by
  unfold Gr.aheadRK
  rw [Gr.range_snoc, Gr.ints_app]
  cases es.contains ((k : Int), v) <;> rfl
theorem Gr.aheadRK_len (es : Gr.EI) (v : Int) (k : Nat) : (Gr.aheadRK es v k).length ≤ k := by
  unfold Gr.aheadRK
  rw [Gr.ints_len]
  have := List.length_filter_le (fun a : Nat => es.contains ((a : Int), v)) (List.range k)
  rwa [List.length_range] at this
set_option maxHeartbeats 4000000 in
theorem refAhead_any (n : Int) (A : Option Addr) (es : Gr.EI) (cap : Nat) (v : Int) (hl : es.length ≤ 1000000) (w : World) (h : Edg w w.heap.size A es) :
    Calls Try.prog 33 #[.agg #[.int .i64 n, .slice A es.length cap], .int .i64 v] w (ListG w (Gr.aheadI n es v)) := by
  have GD : Hid (∀ W, Below w.heap.size w W → Calls Try.prog 32 #[.agg #[.int .i64 n, .slice A es.length cap]] W (BoolG W (Gr.goodV n es))) := Lib.hid fun W hW => refGood_any n A es cap hl W (h.on hW)
  have HS : Hid (∀ W (a c : Int), Below w.heap.size w W → Calls Try.prog 43 #[.agg #[.int .i64 n, .slice A es.length cap], .int .i64 a, .int .i64 c] W (BoolG W (es.contains (a, c)))) := Lib.hid fun W a c hW => refHas_any n A es cap a c hl W (h.on hW)
  generalize es.length = l at *
  clear h hl
  obtain ⟨W1, hW1⟩ : ∃ W1, W1 = w.alloc (.cells #[.int .i64 n, .slice A l cap] 39) := ⟨_, rfl⟩
  have P1 : Hid (W1.heap[w.heap.size]? = some (.cells #[.int .i64 n, .slice A l cap] 39 (0, 0))) := Lib.hid (by rw [hW1]; exact heap_alloc_new ..)
  have B1 : Hid (Below w.heap.size w W1) := Lib.hid (by rw [hW1]; exact (Below.refl _ _).alloc (Nat.le_refl _) _)
  obtain ⟨⟨x0, x1⟩, -⟩ := obG P1.out
  cases hg : Gr.goodV n es with
  | false =>
    rw [hg] at GD
    have E : Hid (Gr.aheadI n es v = []) := Lib.hid (by unfold Gr.aheadI; rw [hg]; rfl)
    clear hg
    go_enter Try.func33, Try.ntmps33
    go_wp2_with fail
    rw [← hW1]
    clear hW1
    go_loopw [5, 6] (fun lv iv wr => lv = .slice none 0 0 ∧ iv = .int .i64 0 ∧ wr = W1) (fun _ _ _ => 0)
    case atStart => exact ⟨rfl, rfl, rfl⟩
    case round =>
      obtain ⟨rfl, rfl, rfl⟩ := hrel
      by_cases h0 : 0 < n
      · go_wp2_with fail
        (with_reducible refine (GD.out _ B1.out).mono ?_); rintro e w2 ⟨rfl, b2⟩
        go_wp2
        go_ret
        rw [E.out]
        exact ⟨none, 0, rfl, Lib.hid (OwnZ.none_ _ _), Lib.hid (B1.out.trans (b2.out.mono B1.out.size))⟩
      · go_wp2
        go_ret
        rw [E.out]
        exact ⟨none, 0, rfl, Lib.hid (OwnZ.none_ _ _), B1⟩
  | true =>
    rw [hg] at GD
    have G := Gr.goodV_iff.1 hg
    obtain ⟨N, hN⟩ : ∃ N : Nat, n = (N : Int) := ⟨n.toNat, by have := G.n0; omega⟩
    have hN16 : N ≤ 16 := by have := G.n16; omega
    have E : Hid (Gr.aheadI n es v = Gr.aheadRK es v N) := Lib.hid (by unfold Gr.aheadI Gr.aheadRK; rw [if_pos hg, hN, Int.toNat_natCast])
    subst hN
    clear hg G
    go_enter Try.func33, Try.ntmps33
    go_wp2_with fail
    rw [← hW1]
    clear hW1 x0 x1
    go_loopw [5, 6] (fun lv iv wr => ∃ (k m : Nat) (A' : Option Addr) (cap' : Nat), k ≤ N ∧ iv = .int .i64 k ∧ lv = .slice A' m cap' ∧ Hid (m = (Gr.aheadRK es v k).length) ∧ Hid (OwnZ wr W1.heap.size A' cap' (Gr.aheadRK es v k)) ∧ Hid (Below W1.heap.size W1 wr)) (fun _ iv _ => N - (intOf iv).toNat)
    case atStart => exact ⟨0, 0, none, 0, Nat.zero_le _, rfl, rfl, Lib.hid rfl, Lib.hid (OwnZ.none_ _ _), Lib.hid (Below.refl _ _)⟩
    case round =>
      obtain ⟨k, m, A', cap', hk, rfl, rfl, HM, HO, HB⟩ := hrel
      have PR : Hid (wr.heap[w.heap.size]? = some (.cells #[.int .i64 (N : Int), .slice A l cap] 39 (0, 0))) := Lib.hid ((HB.out.block _ (lt_of_block P1.out)).trans P1.out)
      have BW : Hid (Below w.heap.size w wr) := Lib.hid (B1.out.trans (HB.out.mono B1.out.size))
      obtain ⟨⟨x0, x1⟩, -⟩ := obG PR.out
      by_cases hlt : k < N
      · have hlt' : (k : Int) < (N : Int) := by omega
        have IK : Hid (inI (k : Int)) := Lib.hid ⟨by omega, by omega⟩
        have ST := Lib.hid (Gr.aheadRK_next es v k)
        have LK := Lib.hid (Gr.aheadRK_len es v k)
        go_wp2_with fail
        (with_reducible refine (GD.out _ BW.out).mono ?_); rintro e w2 ⟨rfl, b2⟩
        have P2 : Hid (w2.heap[w.heap.size]? = some (.cells #[.int .i64 (N : Int), .slice A l cap] 39 (0, 0))) := Lib.hid ((b2.out.block _ (lt_of_block PR.out)).trans PR.out)
        have B2 : Hid (Below w.heap.size w w2) := Lib.hid (BW.out.trans (b2.out.mono BW.out.size))
        have D2 : Hid (Below W1.heap.size W1 w2) := Lib.hid (HB.out.trans (b2.out.mono HB.out.size))
        have O2 : Hid (OwnZ w2 W1.heap.size A' cap' (Gr.aheadRK es v k)) := Lib.hid (HO.out.grew b2.out (Nat.le_refl _))
        clear b2
        obtain ⟨⟨y0, y1⟩, -⟩ := obG P2.out
        cases hs : es.contains ((k : Int), v) with
        | true =>
          have E1 : Hid (Gr.aheadRK es v (k + 1) = Gr.aheadRK es v k ++ [(k : Int)]) := Lib.hid (by rw [ST.out, hs]; rfl)
          have H2 : Hid (Calls Try.prog 43 #[.agg #[.int .i64 (N : Int), .slice A l cap], .int .i64 (k : Int), .int .i64 v] w2 (BoolG w2 true)) := Lib.hid (by have := HS.out w2 k v B2.out; rwa [hs] at this)
          clear hs
          go_wp2_with fail
          (with_reducible refine H2.out.mono ?_); rintro e w3 ⟨rfl, b3⟩
          have O3 : Hid (OwnZ w3 W1.heap.size A' cap' (Gr.aheadRK es v k)) := Lib.hid (O2.out.grew b3.out (Nat.le_refl _))
          have D3 : Hid (Below W1.heap.size W1 w3) := Lib.hid (D2.out.trans (b3.out.mono D2.out.size))
          clear b3
          go_wp2_with (at_builtin; refine wp_appZ rfl (.tmp 21) (.tmp 23) rfl rfl HM.out (O3.out.grew ((Below.refl _ _).alloc (Nat.le_refl _) _) (Nat.le_refl _)) (by have := D3.out.size; simp; omega) rfl (cell_litN (by simp)) IK.out (by have := LK.out; omega) ?_; intro A3 c3 w4 o3 d3; have O4 := Lib.hid o3; have D4 := Lib.hid (grownZ_below (O3.out.grew ((Below.refl _ _).alloc (Nat.le_refl _) _) (Nat.le_refl _)) (by have := D3.out.size; simp; omega) d3); clear o3 d3)
          go_roundw
          case rel => exact ⟨k + 1, _, A3, c3, by omega, by go_num, rfl, Lib.hid (by rw [E1.out]; simp), Lib.hid (by rw [E1.out]; exact O4.out), Lib.hid ((D3.out.alloc D3.out.size _).trans D4.out)⟩
          case measure => simp [intOf]; omega
        | false =>
          have E1 : Hid (Gr.aheadRK es v (k + 1) = Gr.aheadRK es v k) := Lib.hid (by rw [ST.out, hs]; simp)
          have H2 : Hid (Calls Try.prog 43 #[.agg #[.int .i64 (N : Int), .slice A l cap], .int .i64 (k : Int), .int .i64 v] w2 (BoolG w2 false)) := Lib.hid (by have := HS.out w2 k v B2.out; rwa [hs] at this)
          clear hs
          go_wp2_with fail
          (with_reducible refine H2.out.mono ?_); rintro e w3 ⟨rfl, b3⟩
          go_wp2
          go_roundw
          case rel => exact ⟨k + 1, m, A', cap', by omega, by go_num, rfl, Lib.hid (by rw [E1.out]; exact HM.out), Lib.hid (by rw [E1.out]; exact O2.out.grew b3.out (Nat.le_refl _)), Lib.hid (D2.out.trans (b3.out.mono D2.out.size))⟩
          case measure => simp [intOf]; omega
      · obtain rfl : k = N := by omega
        have ML : Hid (m = (Gr.aheadI k es v).length) := Lib.hid (by rw [HM.out, E.out])
        go_wp2
        go_ret
        exact ⟨A', cap', by rw [← ML.out]; rfl, Lib.hid (by rw [E.out]; exact HO.out.low B1.out.size), BW⟩

def Gr.behindRK (es : Gr.EI) (v : Int) (k : Nat) : List Int := Gr.ints ((List.range k).filter fun a => es.contains (v, (a : Int)))
theorem Gr.behindRK_next (es : Gr.EI) (v : Int) (k : Nat) : Gr.behindRK es v (k + 1) = Gr.behindRK es v k ++ (if es.contains (v, (k : Int)) then [(k : Int)] else []) := by
  unfold Gr.behindRK
  rw [Gr.range_snoc, Gr.ints_app]
  cases es.contains (v, (k : Int)) <;> rfl
theorem Gr.behindRK_len (es : Gr.EI) (v : Int) (k : Nat) : (Gr.behindRK es v k).length ≤ k := by
  unfold Gr.behindRK
  rw [Gr.ints_len]
  have := List.length_filter_le (fun a : Nat => es.contains (v, (a : Int))) (List.range k)
  rwa [List.length_range] at this
set_option maxHeartbeats 4000000 in
theorem refBehind_any (n : Int) (A : Option Addr) (es : Gr.EI) (cap : Nat) (v : Int) (hl : es.length ≤ 1000000) (w : World) (h : Edg w w.heap.size A es) :
    Calls Try.prog 35 #[.agg #[.int .i64 n, .slice A es.length cap], .int .i64 v] w (ListG w (Gr.behindI n es v)) := by
  have GD : Hid (∀ W, Below w.heap.size w W → Calls Try.prog 32 #[.agg #[.int .i64 n, .slice A es.length cap]] W (BoolG W (Gr.goodV n es))) := Lib.hid fun W hW => refGood_any n A es cap hl W (h.on hW)
  have HS : Hid (∀ W (a c : Int), Below w.heap.size w W → Calls Try.prog 43 #[.agg #[.int .i64 n, .slice A es.length cap], .int .i64 a, .int .i64 c] W (BoolG W (es.contains (a, c)))) := Lib.hid fun W a c hW => refHas_any n A es cap a c hl W (h.on hW)
  generalize es.length = l at *
  clear h hl
  obtain ⟨W1, hW1⟩ : ∃ W1, W1 = w.alloc (.cells #[.int .i64 n, .slice A l cap] 39) := ⟨_, rfl⟩
  have P1 : Hid (W1.heap[w.heap.size]? = some (.cells #[.int .i64 n, .slice A l cap] 39 (0, 0))) := Lib.hid (by rw [hW1]; exact heap_alloc_new ..)
  have B1 : Hid (Below w.heap.size w W1) := Lib.hid (by rw [hW1]; exact (Below.refl _ _).alloc (Nat.le_refl _) _)
  obtain ⟨⟨x0, x1⟩, -⟩ := obG P1.out
  cases hg : Gr.goodV n es with
  | false =>
    rw [hg] at GD
    have E : Hid (Gr.behindI n es v = []) := Lib.hid (by unfold Gr.behindI; rw [hg]; rfl)
    clear hg
    go_enter Try.func35, Try.ntmps35
    go_wp2_with fail
    rw [← hW1]
    clear hW1
    go_loopw [5, 6] (fun lv iv wr => lv = .slice none 0 0 ∧ iv = .int .i64 0 ∧ wr = W1) (fun _ _ _ => 0)
    case atStart => exact ⟨rfl, rfl, rfl⟩
    case round =>
      obtain ⟨rfl, rfl, rfl⟩ := hrel
      by_cases h0 : 0 < n
      · go_wp2_with fail
        (with_reducible refine (GD.out _ B1.out).mono ?_); rintro e w2 ⟨rfl, b2⟩
        go_wp2
        go_ret
        rw [E.out]
        exact ⟨none, 0, rfl, Lib.hid (OwnZ.none_ _ _), Lib.hid (B1.out.trans (b2.out.mono B1.out.size))⟩
      · go_wp2
        go_ret
        rw [E.out]
        exact ⟨none, 0, rfl, Lib.hid (OwnZ.none_ _ _), B1⟩
  | true =>
    rw [hg] at GD
    have G := Gr.goodV_iff.1 hg
    obtain ⟨N, hN⟩ : ∃ N : Nat, n = (N : Int) := ⟨n.toNat, by have := G.n0; omega⟩
    have hN16 : N ≤ 16 := by have := G.n16; omega
    have E : Hid (Gr.behindI n es v = Gr.behindRK es v N) := Lib.hid (by unfold Gr.behindI Gr.behindRK; rw [if_pos hg, hN, Int.toNat_natCast])
    subst hN
    clear hg G
    go_enter Try.func35, Try.ntmps35
    go_wp2_with fail
    rw [← hW1]
    clear hW1 x0 x1
    go_loopw [5, 6] (fun lv iv wr => ∃ (k m : Nat) (A' : Option Addr) (cap' : Nat), k ≤ N ∧ iv = .int .i64 k ∧ lv = .slice A' m cap' ∧ Hid (m = (Gr.behindRK es v k).length) ∧ Hid (OwnZ wr W1.heap.size A' cap' (Gr.behindRK es v k)) ∧ Hid (Below W1.heap.size W1 wr)) (fun _ iv _ => N - (intOf iv).toNat)
    case atStart => exact ⟨0, 0, none, 0, Nat.zero_le _, rfl, rfl, Lib.hid rfl, Lib.hid (OwnZ.none_ _ _), Lib.hid (Below.refl _ _)⟩
    case round =>
      obtain ⟨k, m, A', cap', hk, rfl, rfl, HM, HO, HB⟩ := hrel
      have PR : Hid (wr.heap[w.heap.size]? = some (.cells #[.int .i64 (N : Int), .slice A l cap] 39 (0, 0))) := Lib.hid ((HB.out.block _ (lt_of_block P1.out)).trans P1.out)
      have BW : Hid (Below w.heap.size w wr) := Lib.hid (B1.out.trans (HB.out.mono B1.out.size))
      obtain ⟨⟨x0, x1⟩, -⟩ := obG PR.out
      by_cases hlt : k < N
      · have hlt' : (k : Int) < (N : Int) := by omega
        have IK : Hid (inI (k : Int)) := Lib.hid ⟨by omega, by omega⟩
        have ST := Lib.hid (Gr.behindRK_next es v k)
        have LK := Lib.hid (Gr.behindRK_len es v k)
        go_wp2_with fail
        (with_reducible refine (GD.out _ BW.out).mono ?_); rintro e w2 ⟨rfl, b2⟩
        have P2 : Hid (w2.heap[w.heap.size]? = some (.cells #[.int .i64 (N : Int), .slice A l cap] 39 (0, 0))) := Lib.hid ((b2.out.block _ (lt_of_block PR.out)).trans PR.out)
        have B2 : Hid (Below w.heap.size w w2) := Lib.hid (BW.out.trans (b2.out.mono BW.out.size))
        have D2 : Hid (Below W1.heap.size W1 w2) := Lib.hid (HB.out.trans (b2.out.mono HB.out.size))
        have O2 : Hid (OwnZ w2 W1.heap.size A' cap' (Gr.behindRK es v k)) := Lib.hid (HO.out.grew b2.out (Nat.le_refl _))
        clear b2
        obtain ⟨⟨y0, y1⟩, -⟩ := obG P2.out
        cases hs : es.contains (v, (k : Int)) with
        | true =>
          have E1 : Hid (Gr.behindRK es v (k + 1) = Gr.behindRK es v k ++ [(k : Int)]) := Lib.hid (by rw [ST.out, hs]; rfl)
          have H2 : Hid (Calls Try.prog 43 #[.agg #[.int .i64 (N : Int), .slice A l cap], .int .i64 v, .int .i64 (k : Int)] w2 (BoolG w2 true)) := Lib.hid (by have := HS.out w2 v k B2.out; rwa [hs] at this)
          clear hs
          go_wp2_with fail
          (with_reducible refine H2.out.mono ?_); rintro e w3 ⟨rfl, b3⟩
          have O3 : Hid (OwnZ w3 W1.heap.size A' cap' (Gr.behindRK es v k)) := Lib.hid (O2.out.grew b3.out (Nat.le_refl _))
          have D3 : Hid (Below W1.heap.size W1 w3) := Lib.hid (D2.out.trans (b3.out.mono D2.out.size))
          clear b3
          go_wp2_with (at_builtin; refine wp_appZ rfl (.tmp 21) (.tmp 23) rfl rfl HM.out (O3.out.grew ((Below.refl _ _).alloc (Nat.le_refl _) _) (Nat.le_refl _)) (by have := D3.out.size; simp; omega) rfl (cell_litN (by simp)) IK.out (by have := LK.out; omega) ?_; intro A3 c3 w4 o3 d3; have O4 := Lib.hid o3; have D4 := Lib.hid (grownZ_below (O3.out.grew ((Below.refl _ _).alloc (Nat.le_refl _) _) (Nat.le_refl _)) (by have := D3.out.size; simp; omega) d3); clear o3 d3)
          go_roundw
          case rel => exact ⟨k + 1, _, A3, c3, by omega, by go_num, rfl, Lib.hid (by rw [E1.out]; simp), Lib.hid (by rw [E1.out]; exact O4.out), Lib.hid ((D3.out.alloc D3.out.size _).trans D4.out)⟩
          case measure => simp [intOf]; omega
        | false =>
          have E1 : Hid (Gr.behindRK es v (k + 1) = Gr.behindRK es v k) := Lib.hid (by rw [ST.out, hs]; simp)
          have H2 : Hid (Calls Try.prog 43 #[.agg #[.int .i64 (N : Int), .slice A l cap], .int .i64 v, .int .i64 (k : Int)] w2 (BoolG w2 false)) := Lib.hid (by have := HS.out w2 v k B2.out; rwa [hs] at this)
          clear hs
          go_wp2_with fail
          (with_reducible refine H2.out.mono ?_); rintro e w3 ⟨rfl, b3⟩
          go_wp2
          go_roundw
          case rel => exact ⟨k + 1, m, A', cap', by omega, by go_num, rfl, Lib.hid (by rw [E1.out]; exact HM.out), Lib.hid (by rw [E1.out]; exact O2.out.grew b3.out (Nat.le_refl _)), Lib.hid (D2.out.trans (b3.out.mono D2.out.size))⟩
          case measure => simp [intOf]; omega
      · obtain rfl : k = N := by omega
        have ML : Hid (m = (Gr.behindI k es v).length) := Lib.hid (by rw [HM.out, E.out])
        go_wp2
        go_ret
        exact ⟨A', cap', by rw [← ML.out]; rfl, Lib.hid (by rw [E.out]; exact HO.out.low B1.out.size), BW⟩
end Go.Proofs.Ytgeefkfolejbnaa
