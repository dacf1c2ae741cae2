/-
  The reference: steps, the distances from one node.
-/
import Derived.Test.YtiapacbbfgihdaaGrRefAhead
namespace Go.Proofs.Ytiapacbbfgihdaa
open Go.RowKit
/-- Each number is at least -1 and at most c. -/
def Gr.Cap (c : Int) (d : List Int) : Prop := ∀ i, i < d.length → -1 ≤ d.getD i 0 ∧ d.getD i 0 ≤ c
theorem Gr.Cap.mono {c c' : Int} {d : List Int} (h : Gr.Cap c d) (hc : c ≤ c') : Gr.Cap c' d := fun i hi => ⟨(h i hi).1, by have := (h i hi).2; omega⟩
theorem Gr.getD_two (d : List Int) (i : Nat) (hi : i < d.length) : d.getD i (-1) = d.getD i 0 := by
  rw [List.getD_eq_getElem?_getD, List.getD_eq_getElem?_getD, List.getElem?_eq_getElem hi]; rfl
theorem Gr.getD_set0 (d : List Int) (i j : Nat) (v : Int) (hi : i < d.length) : (d.set i v).getD j 0 = if i = j then v else d.getD j 0 := by
  rw [List.getD_eq_getElem?_getD, List.getD_eq_getElem?_getD, List.getElem?_set]
  by_cases h : i = j
  · subst h; simp [hi]
  · simp [h]
theorem Gr.Cap.set {c : Int} {d : List Int} (h : Gr.Cap c d) {i : Nat} {v : Int} (hv : -1 ≤ v ∧ v ≤ c) (hi : i < d.length) : Gr.Cap c (d.set i v) := fun j hj => by
  rw [Gr.getD_set0 _ _ _ _ hi]
  split
  · exact hv
  · exact h j (by simpa using hj)
/-- The first k set to -1. -/
def Gr.negK (N k : Nat) : List Int := (List.range N).map fun j => if j < k then -1 else 0
theorem Gr.negK_len (N k : Nat) : (Gr.negK N k).length = N := by simp [Gr.negK]
theorem Gr.negK_zero (N : Nat) : Gr.negK N 0 = List.replicate N 0 := by
  unfold Gr.negK
  rw [List.eq_replicate_iff]
  exact ⟨by simp, fun b hb => by simp at hb; exact hb.2.symm⟩
theorem Gr.map_set {N k : Nat} (f g : Nat → Int) (v : Int) (hk : k < N) (hv : g k = v) (ho : ∀ j, j ≠ k → g j = f j) : ((List.range N).map f).set k v = (List.range N).map g := by
  apply List.ext_getElem (by simp)
  intro j h1 h2
  rw [List.getElem_set]
  simp only [List.getElem_map, List.getElem_range]
  split
  · next e => subst e; exact hv.symm
  · next e => exact (ho j (fun e2 => e e2.symm)).symm
theorem Gr.negK_next {N k : Nat} (hk : k < N) : (Gr.negK N k).set k (-1) = Gr.negK N (k + 1) := by
  unfold Gr.negK
  refine Gr.map_set _ _ _ hk (by simp) fun j hj => ?_
  by_cases h : j < k
  · rw [if_pos h, if_pos (by omega)]
  · rw [if_neg h, if_neg (by omega)]
/-- .. then those with an edge from a to 1. -/
def Gr.oneK (es : Gr.EI) (N : Nat) (a : Int) (k : Nat) : List Int := (List.range N).map fun j => if j < k ∧ es.contains (a, (j : Int)) = true then 1 else -1
theorem Gr.oneK_len (es : Gr.EI) (N : Nat) (a : Int) (k : Nat) : (Gr.oneK es N a k).length = N := by simp [Gr.oneK]
theorem Gr.oneK_zero (es : Gr.EI) (N : Nat) (a : Int) : Gr.oneK es N a 0 = Gr.negK N N := by
  unfold Gr.oneK Gr.negK
  refine List.map_congr_left fun j hj => ?_
  rw [if_neg (by omega), if_pos (by simpa using hj)]
theorem Gr.oneK_put {es : Gr.EI} {N : Nat} {a : Int} {k : Nat} (hk : k < N) (h : es.contains (a, (k : Int)) = true) : (Gr.oneK es N a k).set k 1 = Gr.oneK es N a (k + 1) := by
  unfold Gr.oneK
  refine Gr.map_set _ _ _ hk (by rw [if_pos ⟨by omega, h⟩]) fun j hj => ?_
  by_cases h2 : j < k ∧ es.contains (a, (j : Int)) = true
  · rw [if_pos h2, if_pos ⟨by omega, h2.2⟩]
  · rw [if_neg h2, if_neg fun h3 => h2 ⟨by omega, h3.2⟩]
theorem Gr.oneK_keep {es : Gr.EI} {N : Nat} {a : Int} {k : Nat} (h : es.contains (a, (k : Int)) = false) : Gr.oneK es N a (k + 1) = Gr.oneK es N a k := by
  unfold Gr.oneK
  refine List.map_congr_left fun j _ => ?_
  by_cases h2 : j < k ∧ es.contains (a, (j : Int)) = true
  · rw [if_pos h2, if_pos ⟨by omega, h2.2⟩]
  · rw [if_neg h2, if_neg fun h3 => ?_]
    rcases Nat.lt_or_ge j k with h4 | h4
    · exact h2 ⟨h4, h3.2⟩
    · obtain rfl : j = k := by omega
      rw [h] at h3; exact absurd h3.2 (by simp)
theorem Gr.oneK_start {n : Int} {es : Gr.EI} (h : Gr.Good n es) (N a : Nat) : Gr.oneK es N a N = Gr.start (Gr.nat es) N a := by
  unfold Gr.oneK Gr.start
  refine List.map_congr_left fun j hj => ?_
  have hj' : j < N := by simpa using hj
  have e : ((Gr.nat es).any fun e => e.1 == a && e.2 == j) = es.contains ((a : Int), (j : Int)) := by
    rw [Bool.eq_iff_iff, List.any_eq_true, List.contains_iff_mem, ← h.mem]
    constructor
    · rintro ⟨⟨x, y⟩, h1, h2⟩
      simp only [Bool.and_eq_true, beq_iff_eq] at h2
      obtain ⟨rfl, rfl⟩ := h2
      exact h1
    · intro h1
      exact ⟨_, h1, by simp⟩
  rw [e]
  by_cases h2 : es.contains ((a : Int), (j : Int)) = true
  · rw [if_pos ⟨hj', h2⟩, if_pos h2]
  · rw [if_neg fun h3 => h2 h3.2, if_neg h2]
theorem Gr.oneK_cap (es : Gr.EI) (N : Nat) (a : Int) (k : Nat) : Gr.Cap 1 (Gr.oneK es N a k) := fun i hi => by
  rw [Gr.oneK_len] at hi
  unfold Gr.oneK
  rw [List.getD_eq_getElem?_getD, List.getElem?_map, List.getElem?_range hi]
  simp only [Option.map_some, Option.getD_some]
  split <;> omega
theorem Gr.relax_len (d : List Int) (e : Nat × Nat) : (Gr.relax d e).length = d.length := by
  unfold Gr.relax
  split
  · simp
  · rfl
theorem Gr.nat_drop {es : Gr.EI} {k : Nat} {x y : Int} (hk : k < es.length) (he : es.getD k (0, 0) = (x, y)) : (Gr.nat es).drop k = (x.toNat, y.toNat) :: (Gr.nat es).drop (k + 1) := by
  rw [List.drop_eq_getElem_cons (by unfold Gr.nat; simpa using hk)]
  congr 1
  unfold Gr.nat
  rw [List.getElem_map]
  rw [List.getD_eq_getElem?_getD, List.getElem?_eq_getElem hk] at he
  have he : es[k] = (x, y) := he
  rw [he]
def Gr.stepsV (es : Gr.EI) (N a : Nat) : List Int := Gr.rounds (Gr.nat es) N (Gr.start (Gr.nat es) N a)
theorem Gr.stepsV_len {n : Int} {es : Gr.EI} (h : Gr.Good n es) (N a : Nat) (hN : n = (N : Int)) : (Gr.stepsV es N a).length = N := by
  subst hN
  have hl := h.low
  rw [Int.toNat_natCast] at hl
  exact (Gr.rounds_fine hl N 1 _ (Nat.le_refl _) (Gr.start_fine (Gr.nat es) N a) (Gr.start_cov hl)).1.len
theorem OwnZ.thaw {w : World} {base g cap : Nat} {zs : List Int} (h : OwnZ w base (some ⟨g, 0, none⟩) cap zs) (i : Nat) : w.frozen? ⟨g, i, none⟩ = false := by
  rcases h.1.2 with ⟨e, _⟩ | ⟨g', c', cur, e, hb, hg, r⟩
  · cases e
  · injection e with e1 e2 e3
    injection e1 with e1
    injection e1 with e1
    subst e1
    simp [World.frozen?, hg]
theorem OwnZ.val {w : World} {base g cap : Nat} {zs : List Int} (h : OwnZ w base (some ⟨g, 0, none⟩) cap zs) {i : Nat} (hi : i < zs.length) : w.cell? ⟨g, i, none⟩ = some (.int .i64 (zs.getD i 0)) := by
  obtain ⟨bb, off, z, he, _, hc, hz, _, _⟩ := h.zs.at_ hi
  injection he with he
  injection he with he1 he2
  subst he1 he2
  rw [hz.out, Nat.zero_add] at *
  exact hc
theorem Gr.relax_no {d : List Int} {x y : Nat} (hx : x < d.length) (hy : y < d.length) (h : ¬ (0 ≤ d.getD x 0 ∧ (d.getD y 0 < 0 ∨ d.getD x 0 + 1 < d.getD y 0))) : Gr.relax d (x, y) = d := by
  unfold Gr.relax
  rw [Gr.getD_two d x hx, Gr.getD_two d y hy, if_neg h]
theorem Gr.relax_yes {d : List Int} {x y : Nat} (hx : x < d.length) (hy : y < d.length) (h : 0 ≤ d.getD x 0 ∧ (d.getD y 0 < 0 ∨ d.getD x 0 + 1 < d.getD y 0)) : Gr.relax d (x, y) = d.set y (d.getD x 0 + 1) := by
  unfold Gr.relax
  rw [Gr.getD_two d x hx, Gr.getD_two d y hy, if_pos h]
set_option maxHeartbeats 8000000 in
theorem refSteps_any (N : Nat) (A : Option Addr) (es : Gr.EI) (cap : Nat) (a : Nat) (ha : a < N) (hl : es.length ≤ 100000) (hG : Gr.Good N es) (w : World) (h : Edg w w.heap.size A es) :
    Calls Try.prog 33 #[.agg #[.int .i64 (N : Int), .slice A es.length cap], .int .i64 (a : Int)] w (ListG w (Gr.stepsV es N a)) := by
  have H := Lib.hid h
  have HG := Lib.hid hG
  have hN : N ≤ 16 := by have := hG.n16; omega
  have HS : Hid (∀ W (a c : Int), Below w.heap.size w W → Calls Try.prog 32 #[.agg #[.int .i64 (N : Int), .slice A es.length cap], .int .i64 a, .int .i64 c] W (BoolG W (es.contains (a, c)))) := Lib.hid fun W a c hW => refHas_any N A es cap a c (by omega) W (h.on hW)
  obtain ⟨l, hlen⟩ : ∃ l, l = es.length := ⟨_, rfl⟩
  have HN := Lib.hid hlen
  rw [← hlen] at HS hl ⊢
  clear h hlen hG
  obtain ⟨W1, hW1⟩ : ∃ W1, W1 = (w.alloc (.cells #[.int .i64 (N : Int), .slice A l cap] 38)).alloc (.cells (madeCells #[.int .i64 0] N) 3) := ⟨_, rfl⟩
  obtain ⟨R, hR⟩ : ∃ R, R = w.heap.size + 1 := ⟨_, rfl⟩
  have HR : Hid (w.heap.size < R) := Lib.hid (by omega)
  have MK := fun W => made_Z N (by omega) W
  have O1 : Hid (OwnZ W1 R (some ⟨R, 0, none⟩) N (Gr.negK N 0)) := Lib.hid (by
    rw [Gr.negK_zero, hR, hW1]
    have := OwnZ.made (w.alloc (.cells #[.int .i64 (N : Int), .slice A l cap] 38)) N (by omega)
    rw [World.size_alloc] at this
    exact this)
  have P1 : Hid (W1.heap[w.heap.size]? = some (.cells #[.int .i64 (N : Int), .slice A l cap] 38 (0, 0))) := Lib.hid (by rw [hW1, Below.heap_alloc _ _ _ (by simp)]; exact heap_alloc_new ..)
  have B1 : Hid (Below w.heap.size w W1) := Lib.hid (by rw [hW1]; exact ((Below.refl _ _).alloc (Nat.le_refl _) _).alloc (by simp) _)
  have R1 : Hid (R < W1.heap.size) := Lib.hid (by rw [hW1, hR]; simp)
  go_enter Try.func33, Try.ntmps33
  go_wp2_with fail
  rw [← hW1, ← hR]
  clear MK hW1 hR
  go_loopw [6] (fun iv wr => ∃ k : Nat, k ≤ N ∧ iv = .int .i64 k ∧ Hid (OwnZ wr R (some ⟨R, 0, none⟩) N (Gr.negK N k)) ∧ Hid (But W1.heap.size R W1 wr)) (fun iv _ => N - (intOf iv).toNat)
  case atStart => exact ⟨0, Nat.zero_le _, rfl, O1, Lib.hid (But.refl _ _ _)⟩
  case round =>
    clear O1
    obtain ⟨k, hk, rfl, HO, HB⟩ := hrel
    have PR : Hid (wr.heap[w.heap.size]? = some (.cells #[.int .i64 (N : Int), .slice A l cap] 38 (0, 0))) := Lib.hid ((HB.out.block _ (lt_of_block P1.out) (by have := HR.out; omega)).trans P1.out)
    obtain ⟨⟨x0, x1⟩, -⟩ := obG PR.out
    by_cases hlt : k < N
    · have hlt' : (k : Int) < (N : Int) := by omega
      have hv := HO.out.val (i := k) (by rw [Gr.negK_len]; exact hlt)
      have hf := HO.out.thaw k
      generalize (Gr.negK N k).getD k 0 = z at *
      go_wp2
      go_roundw
      case rel => exact ⟨k + 1, by omega, by go_num, Lib.hid (by rw [← Gr.negK_next hlt]; exact HO.out.stored k (-1) ⟨by decide, by decide⟩), Lib.hid (HB.out.trans (But.set _ _ _ _ _))⟩
      case measure => simp [intOf]; omega
    · obtain rfl : N = k := by omega
      have O2 : Hid (OwnZ wr R (some ⟨R, 0, none⟩) N (Gr.oneK es N a 0)) := Lib.hid (by rw [Gr.oneK_zero]; exact HO.out)
      clear HO
      go_wp2_with fail
      clear x0 x1 PR hk hlt
      go_loopw [7] (fun iv wr => ∃ k : Nat, k ≤ N ∧ iv = .int .i64 k ∧ Hid (OwnZ wr R (some ⟨R, 0, none⟩) N (Gr.oneK es N a k)) ∧ Hid (But W1.heap.size R W1 wr)) (fun iv _ => N - (intOf iv).toNat)
      case atStart => exact ⟨0, Nat.zero_le _, rfl, O2, HB⟩
      case round =>
        clear O2 HB
        obtain ⟨k, hk, rfl, HO, HB⟩ := hrel
        have PR : Hid (wr.heap[w.heap.size]? = some (.cells #[.int .i64 (N : Int), .slice A l cap] 38 (0, 0))) := Lib.hid ((HB.out.block _ (lt_of_block P1.out) (by have := HR.out; omega)).trans P1.out)
        have BW : Hid (Below w.heap.size w wr) := Lib.hid (B1.out.trans (HB.out.below B1.out.size (by have := HR.out; omega)))
        obtain ⟨⟨x0, x1⟩, -⟩ := obG PR.out
        by_cases hlt : k < N
        · have hlt' : (k : Int) < (N : Int) := by omega
          cases hs : es.contains ((a : Int), (k : Int)) with
          | true =>
            have NX := Lib.hid (Gr.oneK_put hlt hs)
            have H2 : Hid (Calls Try.prog 32 #[.agg #[.int .i64 (N : Int), .slice A l cap], .int .i64 (a : Int), .int .i64 (k : Int)] wr (BoolG wr true)) := Lib.hid (by have := HS.out wr a k BW.out; rwa [hs] at this)
            clear hs
            go_wp2_with fail
            (with_reducible refine H2.out.mono ?_); rintro e w3 ⟨rfl, b3⟩
            have O3 : Hid (OwnZ w3 R (some ⟨R, 0, none⟩) N (Gr.oneK es N a k)) := Lib.hid (HO.out.grew b3.out (Nat.le_refl _))
            have D3 : Hid (But W1.heap.size R W1 w3) := Lib.hid (HB.out.trans (But.of (b3.out.mono HB.out.size)))
            have hv := O3.out.val (i := k) (by rw [Gr.oneK_len]; exact hlt)
            have hf := O3.out.thaw k
            generalize (Gr.oneK es N a k).getD k 0 = z at *
            clear b3
            go_wp2
            go_roundw
            case rel => exact ⟨k + 1, by omega, by go_num, Lib.hid (by rw [← NX.out]; exact O3.out.stored k 1 ⟨by decide, by decide⟩), Lib.hid (D3.out.trans (But.set _ _ _ _ _))⟩
            case measure => simp [intOf]; omega
          | false =>
            have NX := Lib.hid (Gr.oneK_keep (N := N) hs)
            have H2 : Hid (Calls Try.prog 32 #[.agg #[.int .i64 (N : Int), .slice A l cap], .int .i64 (a : Int), .int .i64 (k : Int)] wr (BoolG wr false)) := Lib.hid (by have := HS.out wr a k BW.out; rwa [hs] at this)
            clear hs
            go_wp2_with fail
            (with_reducible refine H2.out.mono ?_); rintro e w3 ⟨rfl, b3⟩
            go_wp2
            go_roundw
            case rel => exact ⟨k + 1, by omega, by go_num, Lib.hid (by rw [NX.out]; exact HO.out.grew b3.out (Nat.le_refl _)), Lib.hid (HB.out.trans (But.of (b3.out.mono HB.out.size)))⟩
            case measure => simp [intOf]; omega
        · obtain rfl : N = k := by omega
          have O3 : Hid (OwnZ wr R (some ⟨R, 0, none⟩) N (Gr.start (Gr.nat es) N a)) := Lib.hid (by rw [← Gr.oneK_start HG.out]; exact HO.out)
          have C3 : Hid (Gr.Cap 1 (Gr.start (Gr.nat es) N a)) := Lib.hid (by rw [← Gr.oneK_start HG.out]; exact Gr.oneK_cap es N a N)
          clear HO
          go_wp2_with fail
          clear x0 x1 PR hk hlt BW
          go_loopw [8] (fun iv wr => ∃ (r : Nat) (d : List Int), r ≤ N ∧ iv = .int .i64 r ∧ d.length = N ∧ Hid (Gr.rounds (Gr.nat es) (N - r) d = Gr.stepsV es N a) ∧ Hid (Gr.Cap (1 + 100000 * r) d) ∧ Hid (OwnZ wr R (some ⟨R, 0, none⟩) N d) ∧ Hid (But W1.heap.size R W1 wr)) (fun iv _ => N - (intOf iv).toNat)
          case atStart => exact ⟨0, _, Nat.zero_le _, rfl, (Gr.start_fine (Gr.nat es) N a).len, Lib.hid (by rw [Nat.sub_zero]; rfl), C3, O3, HB⟩
          case round =>
            clear O3 C3 HB
            obtain ⟨r, d, hr, rfl, hdl, HD, HC, HO, HB⟩ := hrel
            have PR : Hid (wr.heap[w.heap.size]? = some (.cells #[.int .i64 (N : Int), .slice A l cap] 38 (0, 0))) := Lib.hid ((HB.out.block _ (lt_of_block P1.out) (by have := HR.out; omega)).trans P1.out)
            obtain ⟨⟨x0, x1⟩, -⟩ := obG PR.out
            by_cases hlt : r < N
            · have hlt' : (r : Int) < (N : Int) := by omega
              have HD2 : Hid (Gr.rounds (Gr.nat es) (N - (r + 1)) ((Gr.nat es).foldl Gr.relax d) = Gr.stepsV es N a) := Lib.hid (by
                have := HD.out
                rw [show N - r = (N - (r + 1)) + 1 by omega] at this
                exact this)
              have F0 : Hid (((Gr.nat es).drop 0).foldl Gr.relax d = (Gr.nat es).foldl Gr.relax d) := Lib.hid rfl
              have C0 : Hid (Gr.Cap (1 + 100000 * r + (0 : Nat)) d) := Lib.hid (HC.out.mono (by omega))
              have HDL := Lib.hid hdl
              clear HD HC hdl
              go_wp2_with fail
              clear x0 x1 PR
              go_loopw [9] (fun jv wr => ∃ (j : Nat) (y : List Int), j ≤ l ∧ jv = .int .i64 j ∧ Hid (y.length = N) ∧ Hid (((Gr.nat es).drop j).foldl Gr.relax y = (Gr.nat es).foldl Gr.relax d) ∧ Hid (Gr.Cap (1 + 100000 * r + j) y) ∧ Hid (OwnZ wr R (some ⟨R, 0, none⟩) N y) ∧ Hid (But W1.heap.size R W1 wr)) (fun jv _ => l - (intOf jv).toNat)
              case atStart => exact ⟨0, d, Nat.zero_le _, rfl, HDL, F0, C0, HO, HB⟩
              case round =>
                clear F0 C0 HO HB HDL
                obtain ⟨j, Y, hj, rfl, HL, HF, HC, HO, HB⟩ := hrel
                have PR : Hid (wr.heap[w.heap.size]? = some (.cells #[.int .i64 (N : Int), .slice A l cap] 38 (0, 0))) := Lib.hid ((HB.out.block _ (lt_of_block P1.out) (by have := HR.out; omega)).trans P1.out)
                have BW : Hid (Below w.heap.size w wr) := Lib.hid (B1.out.trans (HB.out.below B1.out.size (by have := HR.out; omega)))
                obtain ⟨⟨x0, x1⟩, -⟩ := obG PR.out
                by_cases hjl : j < l
                · have hjl' : (j : Int) < (l : Int) := by omega
                  obtain ⟨b, off, x, y, rfl, hb, hc0, hc1, he, _, _⟩ := (H.out.below BW.out).at_ (k := j) (by rw [← HN.out]; exact hjl)
                  have HI := Lib.hid (show j < es.length by rw [← HN.out]; exact hjl)
                  have hm := HG.out.edge (x, y) (by
                    have h1 := he.out
                    rw [List.getD_eq_getElem?_getD, List.getElem?_eq_getElem HI.out] at h1
                    have h2 : es[j]'HI.out = (x, y) := h1
                    rw [← h2]; exact List.getElem_mem HI.out)
                  simp only at hm
                  have DR := Gr.nat_drop HI.out he.out
                  obtain ⟨p, rfl⟩ : ∃ p : Nat, x = (p : Int) := ⟨x.toNat, by omega⟩
                  obtain ⟨q, rfl⟩ : ∃ q : Nat, y = (q : Int) := ⟨y.toNat, by omega⟩
                  have hp : p < N := by omega
                  have hq : q < N := by omega
                  have hp' : (p : Int) < (N : Int) := by omega
                  have hq' : (q : Int) < (N : Int) := by omega
                  rw [Int.toNat_natCast, Int.toNat_natCast] at DR
                  have FX : Hid (((Gr.nat es).drop (j + 1)).foldl Gr.relax (Gr.relax Y (p, q)) = (Gr.nat es).foldl Gr.relax d) := Lib.hid (by
                    have := HF.out
                    rw [DR] at this
                    exact this)
                  have hvp := HO.out.val (i := p) (by rw [HL.out]; exact hp)
                  have hvq := HO.out.val (i := q) (by rw [HL.out]; exact hq)
                  have cp := HC.out p (by rw [HL.out]; exact hp)
                  have cq := HC.out q (by rw [HL.out]; exact hq)
                  have RN := Lib.hid (Gr.relax_no (d := Y) (x := p) (y := q) (by rw [HL.out]; exact hp) (by rw [HL.out]; exact hq))
                  have RY := Lib.hid (Gr.relax_yes (d := Y) (x := p) (y := q) (by rw [HL.out]; exact hp) (by rw [HL.out]; exact hq))
                  have RL := Lib.hid (Gr.relax_len Y (p, q))
                  have hf := HO.out.thaw q
                  have CS : Hid (Gr.Cap (1 + 100000 * r + ((j + 1 : Nat) : Int)) Y) := Lib.hid (HC.out.mono (by omega))
                  clear hm DR HF
                  generalize Y.getD p 0 = u at *
                  generalize Y.getD q 0 = v at *
                  have hw : IntKind.i64.wrap (u + 1) = u + 1 := IntWalk.i64_in _ (by omega)
                  by_cases c1 : 0 ≤ u
                  · have hd1 : decide (0 ≤ u) = true := decide_eq_true c1
                    by_cases c2 : v < 0
                    · have hd2 : decide (v < 0) = true := decide_eq_true c2
                      have EY := Lib.hid (RY.out ⟨c1, .inl c2⟩)
                      clear RN RY
                      go_wp2_with fail
                      go_quiet (fail)
                      go_wp2_with fail
                      go_quiet (fail)
                      go_wp2
                      go_roundw
                      case rel => exact ⟨j + 1, Gr.relax Y (p, q), by omega, by go_num, Lib.hid (by rw [RL.out, HL.out]), FX, Lib.hid (by rw [EY.out]; exact CS.out.set ⟨by omega, by omega⟩ (by rw [HL.out]; exact hq)), Lib.hid (by rw [EY.out]; exact OwnZ.stored (w := wr.drewN _) HO.out q (u + 1) ⟨by omega, by omega⟩), Lib.hid ((HB.out.drewN _).trans (But.set _ _ _ _ _))⟩
                      case measure => simp [intOf]; omega
                    · have hd2 : decide (v < 0) = false := decide_eq_false c2
                      by_cases c3 : u + 1 < v
                      · have hd3 : decide (u + 1 < v) = true := decide_eq_true c3
                        have EY := Lib.hid (RY.out ⟨c1, .inr c3⟩)
                        clear RN RY
                        go_wp2_with fail
                        go_quiet (fail)
                        go_wp2_with fail
                        go_quiet (fail)
                        go_wp2
                        go_roundw
                        case rel => exact ⟨j + 1, Gr.relax Y (p, q), by omega, by go_num, Lib.hid (by rw [RL.out, HL.out]), FX, Lib.hid (by rw [EY.out]; exact CS.out.set ⟨by omega, by omega⟩ (by rw [HL.out]; exact hq)), Lib.hid (by rw [EY.out]; exact OwnZ.stored (w := wr.drewN _) HO.out q (u + 1) ⟨by omega, by omega⟩), Lib.hid ((HB.out.drewN _).trans (But.set _ _ _ _ _))⟩
                        case measure => simp [intOf]; omega
                      · have hd3 : decide (u + 1 < v) = false := decide_eq_false c3
                        have EY := Lib.hid (RN.out fun h => h.2.elim c2 c3)
                        clear RN RY
                        go_wp2_with fail
                        go_quiet (fail)
                        go_wp2_with fail
                        go_quiet (fail)
                        go_wp2
                        go_roundw
                        case rel => exact ⟨j + 1, Y, by omega, by go_num, HL, Lib.hid (by have := FX.out; rwa [EY.out] at this), CS, HO, Lib.hid (HB.out.drewN _)⟩
                        case measure => simp [intOf]; omega
                  · have hd1 : decide (0 ≤ u) = false := decide_eq_false c1
                    have EY := Lib.hid (RN.out fun h => c1 h.1)
                    clear RN RY
                    go_wp2_with fail
                    go_quiet (fail)
                    go_wp2_with fail
                    go_quiet (fail)
                    go_wp2
                    go_roundw
                    case rel => exact ⟨j + 1, Y, by omega, by go_num, HL, Lib.hid (by have := FX.out; rwa [EY.out] at this), CS, HO, Lib.hid (HB.out.drewN _)⟩
                    case measure => simp [intOf]; omega
                · obtain rfl : l = j := by omega
                  have HX : Hid (Y = (Gr.nat es).foldl Gr.relax d) := Lib.hid (by
                    have := HF.out
                    rw [List.drop_of_length_le (by unfold Gr.nat; rw [List.length_map, ← HN.out]; exact Nat.le_refl _)] at this
                    exact this)
                  have HD3 : Hid (Gr.rounds (Gr.nat es) (N - (r + 1)) Y = Gr.stepsV es N a) := Lib.hid (by rw [HX.out]; exact HD2.out)
                  have HC3 : Hid (Gr.Cap (1 + 100000 * ((r + 1 : Nat) : Int)) Y) := Lib.hid (HC.out.mono (by omega))
                  have hYl := HL.out
                  go_wp2
                  go_roundw
                  case rel => exact ⟨r + 1, Y, by omega, by go_num, hYl, HD3, HC3, HO, HB⟩
                  case measure => simp [intOf]; omega
            · obtain rfl : N = r := by omega
              have E : Hid (d = Gr.stepsV es N a) := Lib.hid (by have := HD.out; rw [Nat.sub_self] at this; exact this)
              have ML : Hid (N = (Gr.stepsV es N a).length) := Lib.hid (by rw [← E.out, hdl])
              go_wp2
              go_ret
              exact ⟨some ⟨R, 0, none⟩, N, by rw [← ML.out]; rfl, Lib.hid (by rw [← E.out]; exact HO.out.low (by have := HR.out; omega)), Lib.hid (B1.out.trans (HB.out.below B1.out.size (by have := HR.out; omega)))⟩
end Go.Proofs.Ytiapacbbfgihdaa
