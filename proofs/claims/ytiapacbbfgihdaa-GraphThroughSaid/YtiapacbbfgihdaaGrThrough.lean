/-
  The law GraphThrough walked.
-/
import Derived.Test.YtiapacbbfgihdaaGrThree
import Derived.Test.YtiapacbbfgihdaaGrAcross
import Derived.Test.YtiapacbbfgihdaaGrLawsP
namespace Go.Proofs.Ytiapacbbfgihdaa
open Go.RowKit
/-- Sixteen Booleans: is the number among the first k? -/
def inK (R : List Int) (k : Nat) : List Bool := (List.range 16).map fun j : Nat => (R.take k).contains (j : Int)
def inC (R : List Int) (k : Nat) : Array Value := ((inK R k).map Value.bool).toArray
theorem inC_zero (R : List Int) : inC R 0 = #[.bool false, .bool false, .bool false, .bool false, .bool false, .bool false, .bool false, .bool false, .bool false, .bool false, .bool false, .bool false, .bool false, .bool false, .bool false, .bool false] := by
  unfold inC inK
  rw [List.take_zero]
  rfl
theorem inC_get (R : List Int) (k j : Nat) (hj : j < 16) : (inC R k)[j]? = some (.bool ((R.take k).contains (j : Int))) := by
  unfold inC inK
  rw [List.getElem?_toArray, List.getElem?_map, List.getElem?_map, List.getElem?_range hj]
  rfl
theorem inC_next {R : List Int} {k z : Nat} (hk : k < R.length) (hz : R.getD k 0 = (z : Int)) (hz16 : z < 16) : (inC R k).setIfInBounds z (.bool true) = inC R (k + 1) := by
  unfold inC
  rw [List.setIfInBounds_toArray]
  congr 1
  rw [show Value.bool true = Value.bool (id true) from rfl, ← List.map_set]
  congr 1
  unfold inK
  apply List.ext_getElem (by simp)
  intro j h1 h2
  rw [List.getElem_set]
  simp only [List.getElem_map, List.getElem_range]
  have e : R.take (k + 1) = R.take k ++ [(z : Int)] := by
    rw [List.take_succ_eq_append_getElem hk]
    rw [List.getD_eq_getElem?_getD, List.getElem?_eq_getElem hk] at hz
    have hz : R[k] = (z : Int) := hz
    rw [hz]
  rw [e]
  split
  · next hj =>
    subst hj
    show true = _
    symm
    rw [List.contains_iff_mem]; simp
  · next hj =>
    rw [Bool.eq_iff_iff, List.contains_iff_mem, List.contains_iff_mem, List.mem_append]
    constructor
    · exact .inl
    · rintro (h | h)
      · exact h
      · simp at h; exact absurd (by omega) hj
/-- The block of the sixteen. -/
def InB (w : World) (g : Nat) (R : List Int) (k : Nat) : Prop := w.heap[g]? = some (.cells (inC R k) 46 (0, 0))
theorem InB.cell {w : World} {g k : Nat} {R : List Int} (h : InB w g R k) (j : Nat) (hj : j < 16) : w.cell? ⟨g, j, none⟩ = some (.bool ((R.take k).contains (j : Int))) := by
  unfold InB at h
  simp only [World.cell?, h, Option.isSome_none, Bool.false_eq_true, if_false]
  exact inC_get R k j hj
theorem InB.thaw {w : World} {g k : Nat} {R : List Int} (h : InB w g R k) (j : Nat) : w.frozen? ⟨g, j, none⟩ = false := by unfold InB at h; simp [World.frozen?, h]
theorem InB.put {w : World} {g k z : Nat} {R : List Int} (h : InB w g R k) (hk : k < R.length) (hz : R.getD k 0 = (z : Int)) (hz16 : z < 16) : InB (w.setCell ⟨g, z, none⟩ (.bool true)) g R (k + 1) := by
  unfold InB at *
  rw [heap_setCell_same w g z _ _ _ h, inC_next hk hz hz16]
set_option maxRecDepth 100000 in
set_option maxHeartbeats 8000000 in
theorem through_walk (A : Option Addr) (es : List (Int × Int)) (cap : Nat) (n v : Int) (w : World) (hl : es.length ≤ 9223372036854775807) (hcap : es.length ≤ cap) (h : Edg w w.heap.size A es) (v0 : -9223372036854775808 ≤ v) (v1 : v ≤ 9223372036854775807) :
    Calls Try.prog 7 #[.agg #[.int .i64 n, .slice A es.length cap], .int .i64 v] w (BoolG w true) := by
  have H := Lib.hid h
  have AW : Hid (∀ W, Calls Try.prog 8 #[] W (BoolG W true)) := Lib.hid awake_any
  have GD : Hid (es.length ≤ 60 → ∀ W, Below w.heap.size w W → Calls Try.prog 9 #[.agg #[.int .i64 n, .slice A es.length cap]] W (BoolG W (Gr.goodV n es))) := Lib.hid fun hs W hW => good_any n A es cap (by omega) W (h.on hW)
  have RE : Hid (es.length ≤ 60 → ∀ W (x : Int), inI x → Below w.heap.size w W → Calls Try.prog 12 #[.agg #[.int .i64 n, .slice A es.length cap], .int .i64 x] W (ListG W (Gr.reachI n es x))) := Lib.hid fun hs W x hx hW => reach_any n A es cap x hx (by omega) W (h.on hW)
  have BE : Hid (es.length ≤ 60 → ∀ W (x : Int), Below w.heap.size w W → Calls Try.prog 15 #[.agg #[.int .i64 n, .slice A es.length cap], .int .i64 x] W (ListG W (Gr.behindI n es x))) := Lib.hid fun hs W x hW => behind_any n A es cap x (by omega) W (h.on hW)
  generalize es.length = l at *
  obtain ⟨W1, hW1⟩ : ∃ W1, W1 = w.alloc (.cells #[.int .i64 n, .slice A l cap] 25) := ⟨_, rfl⟩
  have P1 : Hid (W1.heap[w.heap.size]? = some (.cells #[.int .i64 n, .slice A l cap] 25 (0, 0))) := Lib.hid (by rw [hW1]; exact heap_alloc_new ..)
  have B1 : Hid (Below w.heap.size w W1) := Lib.hid (by rw [hW1]; exact (Below.refl _ _).alloc (Nat.le_refl _) _)
  have V0 := Lib.hid v0
  have V1 := Lib.hid v1
  clear h hl hcap v0 v1
  go_enter Try.func7, Try.ntmps7
  go_wp2_with fail
  rw [← hW1]
  clear hW1
  (with_reducible refine (AW.out _).mono ?_); rintro e w2 ⟨rfl, b2⟩
  have P2 : Hid (w2.heap[w.heap.size]? = some (.cells #[.int .i64 n, .slice A l cap] 25 (0, 0))) := Lib.hid ((b2.out.block _ (lt_of_block P1.out)).trans P1.out)
  have B2 : Hid (Below w.heap.size w w2) := Lib.hid (B1.out.trans (b2.out.mono B1.out.size))
  clear b2
  obtain ⟨⟨y0, y1⟩, -⟩ := obG P2.out
  by_cases h60 : 60 < l
  · have h60' : (60 : Int) < (l : Int) := by omega
    go_wp2
    go_ret
    exact ⟨rfl, B2⟩
  have h60' : (l : Int) ≤ 60 := by omega
  have GD2 := Lib.hid (GD.out (by omega))
  have RE2 := Lib.hid (RE.out (by omega))
  have BE2 := Lib.hid (BE.out (by omega))
  clear h60 GD RE BE
  cases hg : Gr.goodV n es with
  | false =>
    rw [hg] at GD2
    clear hg
    go_wp2_with fail
    (with_reducible refine (GD2.out _ B2.out).mono ?_); rintro e w3 ⟨rfl, b3⟩
    go_wp2
    go_ret
    exact ⟨rfl, Lib.hid (B2.out.trans (b3.out.mono B2.out.size))⟩
  | true =>
    rw [hg] at GD2
    have HG := Lib.hid (Gr.goodV_iff.1 hg)
    clear hg
    go_wp2_with fail
    (with_reducible refine (GD2.out _ B2.out).mono ?_); rintro e w3 ⟨rfl, b3⟩
    have P3 : Hid (w3.heap[w.heap.size]? = some (.cells #[.int .i64 n, .slice A l cap] 25 (0, 0))) := Lib.hid ((b3.out.block _ (lt_of_block P2.out)).trans P2.out)
    have B3 : Hid (Below w.heap.size w w3) := Lib.hid (B2.out.trans (b3.out.mono B2.out.size))
    clear b3 y0 y1
    obtain ⟨⟨y0, y1⟩, -⟩ := obG P3.out
    by_cases hv0 : v < 0
    · go_wp2
      go_ret
      exact ⟨rfl, B3⟩
    by_cases hvn : n ≤ v
    · have hv1 : 0 ≤ v := by omega
      clear hv0
      go_wp2
      go_ret
      exact ⟨rfl, B3⟩
    obtain ⟨N, hN⟩ : ∃ N : Nat, n = (N : Int) := ⟨n.toNat, by have := HG.out.n0; omega⟩
    obtain ⟨a, rfl⟩ : ∃ a : Nat, v = (a : Int) := ⟨v.toNat, by omega⟩
    subst hN
    have hN16 : N ≤ 16 := by have := HG.out.n16; omega
    have haN : a < N := by omega
    have haN' : (a : Int) < (N : Int) := by omega
    have REa : Hid (Calls Try.prog 12 #[.agg #[.int .i64 (N : Int), .slice A l cap], .int .i64 (a : Int)] w3 (ListG w3 (Gr.ints (Gr.reachV (Gr.nat es) N a)))) := Lib.hid (by
      have := RE2.out w3 a ⟨by omega, by omega⟩ B3.out
      rwa [Gr.reachI_eq HG.out] at this)
    clear hv0 hvn
    go_wp2_with fail
    (with_reducible refine REa.out.mono ?_); rintro e w4 ⟨A4, c4, rfl, o4, b4⟩
    obtain ⟨m, hm⟩ : ∃ m, m = (Gr.ints (Gr.reachV (Gr.nat es) N a)).length := ⟨_, rfl⟩
    have HM := Lib.hid hm
    rw [← hm]
    obtain ⟨R, hR⟩ : ∃ R, R = Gr.ints (Gr.reachV (Gr.nat es) N a) := ⟨_, rfl⟩
    have HR := Lib.hid hR
    have ZR : Hid (Zs w4 w4.heap.size A4 R) := Lib.hid (by rw [hR]; exact o4.out.zs)
    have ML : Hid (m = R.length) := Lib.hid (by rw [hR]; exact hm)
    have P4 : Hid (w4.heap[w.heap.size]? = some (.cells #[.int .i64 (N : Int), .slice A l cap] 25 (0, 0))) := Lib.hid ((b4.out.block _ (lt_of_block P3.out)).trans P3.out)
    have B4 : Hid (Below w.heap.size w w4) := Lib.hid (B3.out.trans (b4.out.mono B3.out.size))
    have ELT : Hid (∀ i, i < m → ∃ z : Nat, R.getD i 0 = (z : Int) ∧ z < N ∧ z ∈ Gr.reachV (Gr.nat es) N a) := Lib.hid fun i hi => by
      obtain ⟨z, h1, h2, _⟩ := Gr.ints_at (Gr.reachV (Gr.nat es) N a) i (by rw [hm, Gr.ints_len] at hi; exact hi)
      exact ⟨z, by rw [hR]; exact h1, Gr.reach_lt h2, h2⟩
    have ASC : Hid (∀ i, i + 1 < m → R.getD i 0 < R.getD (i + 1) 0) := Lib.hid fun i hi => by
      have := Gr.reach_asc (Gr.nat es) N a i (by rw [hm, Gr.ints_len] at hi; exact hi)
      rw [hR, Gr.ints_get, Gr.ints_get]
      omega
    have MEM : Hid (∀ z : Nat, R.contains (z : Int) = decide (z ∈ Gr.reachV (Gr.nat es) N a)) := Lib.hid fun z => by rw [hR]; exact Gr.ints_contains _ z
    have hm16 : m ≤ 16 := by
      have h1 := hm
      rw [Gr.ints_len] at h1
      have h2 : (Gr.reachV (Gr.nat es) N a).length ≤ N := by
        unfold Gr.reachV
        exact Nat.le_trans (List.length_filter_le _ _) (by rw [List.length_range]; exact Nat.le_refl _)
      omega
    clear hm hR o4 b4 REa y0 y1
    obtain ⟨X, hX⟩ : ∃ X, X = w4.heap.size := ⟨_, rfl⟩
    obtain ⟨W5, hW5⟩ : ∃ W5, W5 = w4.alloc (.cells #[.bool false, .bool false, .bool false, .bool false, .bool false, .bool false, .bool false, .bool false, .bool false, .bool false, .bool false, .bool false, .bool false, .bool false, .bool false, .bool false] 46) := ⟨_, rfl⟩
    have X5 : Hid (InB W5 X R 0) := Lib.hid (by unfold InB; rw [hW5, hX, inC_zero]; exact heap_alloc_new ..)
    have B5 : Hid (Below w4.heap.size w4 W5) := Lib.hid (by rw [hW5]; exact (Below.refl _ _).alloc (Nat.le_refl _) _)
    have HX := Lib.hid hX
    go_wp2_with fail
    rw [← hW5, ← hX]
    clear hW5 hX
    go_loopw [7] (fun iv wr => ∃ k : Nat, k ≤ m ∧ iv = .int .i64 k ∧ Hid (InB wr X R k) ∧ Hid (But W5.heap.size X W5 wr)) (fun iv _ => m - (intOf iv).toNat)
    case atStart => exact ⟨0, Nat.zero_le _, rfl, X5, Lib.hid (But.refl _ _ _)⟩
    case round =>
      obtain ⟨k, hk, rfl, HI, HB⟩ := hrel
      have hXw : w.heap.size < X := by have := HX.out; have := lt_of_block P4.out; omega
      have D4 : Hid (Below w4.heap.size w4 wr) := Lib.hid (B5.out.trans (HB.out.below B5.out.size (by rw [HX.out]; exact Nat.le_refl _)))
      have PR : Hid (wr.heap[w.heap.size]? = some (.cells #[.int .i64 (N : Int), .slice A l cap] 25 (0, 0))) := Lib.hid ((D4.out.block _ (lt_of_block P4.out)).trans P4.out)
      obtain ⟨⟨x0, x1⟩, -⟩ := obG PR.out
      by_cases hlt : k < m
      · have hlt' : (k : Int) < (m : Int) := by omega
        obtain ⟨b, off, z, hA, hb, hc, hz, _, _⟩ := (ZR.out.below D4.out).at_ (k := k) (by rw [← ML.out]; exact hlt)
        obtain ⟨zn, hz1, hzN, hzm⟩ := ELT.out k hlt
        have hzz : z = (zn : Int) := hz.out.symm.trans hz1
        subst hzz
        have HZ1 := Lib.hid hz1
        have hz16 : zn < 16 := by omega
        have hzN' : (zn : Int) < (N : Int) := by omega
        have hz16' : (zn : Int) < 16 := by omega
        have hd1 : decide ((zn : Int) < 0) = false := decide_eq_false (by omega)
        have hd2 : decide ((N : Int) ≤ (zn : Int)) = false := decide_eq_false (by omega)
        have hd3 : decide (N ≤ zn) = false := decide_eq_false (by omega)
        have hv := HI.out.cell zn hz16
        have hf := HI.out.thaw zn
        generalize (List.take k R).contains (zn : Int) = bo at *
        subst hA
        clear hz hz1 hzm
        rcases Nat.eq_zero_or_pos k with hk0 | hk0
        · subst hk0
          rw [Nat.add_zero] at hc
          go_wp2_with fail
          go_quiet (fail)
          go_wp2
          go_roundw
          case rel => exact ⟨0 + 1, by omega, by go_num, Lib.hid (HI.out.put (by rw [← ML.out]; exact hlt) HZ1.out hz16), Lib.hid ((HB.out.drewN _).trans (But.set _ _ _ _ _))⟩
          case measure => simp [intOf]; omega
        · obtain ⟨j, rfl⟩ : ∃ j, k = j + 1 := ⟨k - 1, by omega⟩
          obtain ⟨b2, off2, y, he, _, hc2, hy, _, _⟩ := (ZR.out.below D4.out).at_ (k := j) (by rw [← ML.out]; omega)
          injection he with he
          injection he with he1 he2
          subst he1 he2
          have hlty : y < (zn : Int) := by
            have := ASC.out j hlt
            rw [HZ1.out, hy.out] at this
            exact this
          have hd4 : decide ((zn : Int) ≤ y) = false := decide_eq_false (by omega)
          have hd5 : decide (0 < (j : Int) + 1) = true := decide_eq_true (by omega)
          have hjm : j < m := by omega
          have hjm' : (j : Int) < (m : Int) := by omega
          have hw : IntKind.i64.wrap (j : Int) = j := IntWalk.i64_in _ (by omega)
          clear hy hlty
          go_wp2_with fail
          go_quiet (fail)
          go_wp2
          go_roundw
          case rel => exact ⟨j + 1 + 1, by omega, by go_num, Lib.hid (HI.out.put (by rw [← ML.out]; exact hlt) HZ1.out hz16), Lib.hid ((HB.out.drewN _).trans (But.set _ _ _ _ _))⟩
          case measure => simp [intOf]; omega
      · obtain rfl : m = k := by omega
        have IN : Hid (∀ z : Nat, z ∈ Gr.reachV (Gr.nat es) N a → (R.take m).contains (z : Int) = true) := Lib.hid fun z hz => by
          rw [ML.out, List.take_length, MEM.out]
          exact decide_eq_true hz
        clear x0 x1 hk hlt ASC
        obtain ⟨⟨x0, x1⟩, -⟩ := obG PR.out
        have BEa : Hid (Calls Try.prog 15 #[.agg #[.int .i64 (N : Int), .slice A l cap], .int .i64 (a : Int)] wr (ListG wr (Gr.ints (Gr.behindV (Gr.nat es) N a)))) := Lib.hid (by
          have := BE2.out wr a (B4.out.trans (D4.out.mono B4.out.size))
          rwa [Gr.behindI_eq HG.out] at this)
        clear BE2
        go_wp2_with fail
        (with_reducible refine BEa.out.mono ?_); rintro e w6 ⟨A6, c6, rfl, o6, b6⟩
        have hXr : X < wr.heap.size := lt_of_block HI.out
        have P6 : Hid (w6.heap[w.heap.size]? = some (.cells #[.int .i64 (N : Int), .slice A l cap] 25 (0, 0))) := Lib.hid ((b6.out.block _ (lt_of_block PR.out)).trans PR.out)
        have X6 : Hid (InB w6 X R m) := Lib.hid (by have h := HI.out; unfold InB at h ⊢; exact (b6.out.block _ hXr).trans h)
        have B6 : Hid (Below w4.heap.size w4 w6) := Lib.hid (D4.out.trans (b6.out.mono D4.out.size))
        have ELB : Hid (∀ i, i < (Gr.behindV (Gr.nat es) N a).length → ∃ z : Nat, (Gr.ints (Gr.behindV (Gr.nat es) N a)).getD i 0 = (z : Int) ∧ z < N ∧ z ∈ Gr.reachV (Gr.nat es) N a) := Lib.hid fun i hi => by
          obtain ⟨z, h1, h2, _⟩ := Gr.ints_at (Gr.behindV (Gr.nat es) N a) i hi
          have h3 := Gr.reach_edge (Gr.low_nat HG.out) ((Gr.mem_behind (Gr.low_nat HG.out)).1 h2)
          exact ⟨z, h1, Gr.reach_lt h3, h3⟩
        have ZB : Hid (Zs w6 w6.heap.size A6 (Gr.ints (Gr.behindV (Gr.nat es) N a))) := Lib.hid o6.out.zs
        have hb16 : (Gr.behindV (Gr.nat es) N a).length ≤ 16 := by
          have h2 : (Gr.behindV (Gr.nat es) N a).length ≤ N := by
            unfold Gr.behindV
            exact Nat.le_trans (List.length_filter_le _ _) (by rw [List.length_range]; exact Nat.le_refl _)
          omega
        have LB : Hid ((Gr.ints (Gr.behindV (Gr.nat es) N a)).length = (Gr.behindV (Gr.nat es) N a).length) := Lib.hid (Gr.ints_len _)
        rw [LB.out]
        obtain ⟨mb, hmb⟩ : ∃ mb, mb = (Gr.behindV (Gr.nat es) N a).length := ⟨_, rfl⟩
        rw [← hmb] at ELB hb16 LB ⊢
        clear hmb b6 o6 BEa PR HB HI x0 x1 D4
        obtain ⟨wv, rfl⟩ : ∃ wv, wv = wr := ⟨_, rfl⟩
        go_wp2_with fail
        go_loopw [9] (fun iv wr => ∃ k : Nat, k ≤ mb ∧ iv = .int .i64 k ∧ Hid (Below w6.heap.size w6 wr)) (fun iv _ => mb - (intOf iv).toNat)
        case atStart => exact ⟨0, Nat.zero_le _, rfl, Lib.hid (Below.refl _ _)⟩
        case round =>
          obtain ⟨k, hk, rfl, HB⟩ := hrel
          have hz : w.heap.size < w6.heap.size := lt_of_block P6.out
          have PR : Hid (wr.heap[w.heap.size]? = some (.cells #[.int .i64 (N : Int), .slice A l cap] 25 (0, 0))) := Lib.hid ((HB.out.block _ hz).trans P6.out)
          have XR : Hid (InB wr X R m) := Lib.hid (by have h := X6.out; unfold InB at h ⊢; exact (HB.out.block _ (lt_of_block X6.out)).trans h)
          obtain ⟨⟨x0, x1⟩, -⟩ := obG PR.out
          by_cases hlt : k < mb
          · have hlt' : (k : Int) < (mb : Int) := by omega
            obtain ⟨b, off, z, hA, hb, hc, hz1, _, _⟩ := (ZB.out.below HB.out).at_ (k := k) (by rw [LB.out]; exact hlt)
            obtain ⟨zn, hz2, hzN, hzm⟩ := ELB.out k hlt
            have hzz : z = (zn : Int) := hz1.out.symm.trans hz2
            subst hzz
            have hz16 : zn < 16 := by omega
            have hzN' : (zn : Int) < (N : Int) := by omega
            have hz16' : (zn : Int) < 16 := by omega
            have hd1 : decide ((zn : Int) < 0) = false := decide_eq_false (by omega)
            have hd2 : decide ((N : Int) ≤ (zn : Int)) = false := decide_eq_false (by omega)
            have hd3 : decide (N ≤ zn) = false := decide_eq_false (by omega)
            have hv := XR.out.cell zn hz16
            rw [IN.out zn hzm] at hv
            subst hA
            clear hz1 hz2 hzm hz
            go_wp2_with fail
            go_quiet (fail)
            go_wp2
            go_roundw
            case rel => exact ⟨k + 1, by omega, by go_num, Lib.hid (below_n HB.out _)⟩
            case measure => simp [intOf]; omega
          · obtain rfl : mb = k := by omega
            have B7 : Hid (Below w4.heap.size w4 wr) := Lib.hid (B6.out.trans (HB.out.mono B6.out.size))
            clear hlt hk x0 x1 ZB LB ELB HB P6 X6 B6 hb16
            obtain ⟨wq, rfl⟩ : ∃ wq, wq = wr := ⟨_, rfl⟩
            go_wp2_with fail
            go_loopw [10] (fun iv wr => ∃ k : Nat, k ≤ m ∧ iv = .int .i64 k ∧ Hid (Below wq.heap.size wq wr)) (fun iv _ => m - (intOf iv).toNat)
            case atStart => exact ⟨0, Nat.zero_le _, rfl, Lib.hid (Below.refl _ _)⟩
            case round =>
              obtain ⟨k, hk, rfl, HB⟩ := hrel
              have hz : w.heap.size < wq.heap.size := lt_of_block PR.out
              have PS : Hid (wr.heap[w.heap.size]? = some (.cells #[.int .i64 (N : Int), .slice A l cap] 25 (0, 0))) := Lib.hid ((HB.out.block _ hz).trans PR.out)
              have XS : Hid (InB wr X R m) := Lib.hid (by have h := XR.out; unfold InB at h ⊢; exact (HB.out.block _ (lt_of_block XR.out)).trans h)
              have D7 : Hid (Below w4.heap.size w4 wr) := Lib.hid (B7.out.trans (HB.out.mono B7.out.size))
              obtain ⟨⟨x0, x1⟩, -⟩ := obG PS.out
              by_cases hlt : k < m
              · have hlt' : (k : Int) < (m : Int) := by omega
                obtain ⟨b, off, z, hA, hb, hc, hz1, _, _⟩ := (ZR.out.below D7.out).at_ (k := k) (by rw [← ML.out]; exact hlt)
                obtain ⟨zn, hz2, hzN, hzm⟩ := ELT.out k hlt
                have hzz : z = (zn : Int) := hz1.out.symm.trans hz2
                subst hzz
                have hzN' : (zn : Int) < (N : Int) := by omega
                subst hA
                have D8 : Hid (Below w4.heap.size w4 wr.drew) := Lib.hid D7.out.drew
                have REz : Hid (Calls Try.prog 12 #[.agg #[.int .i64 (N : Int), .slice A l cap], .int .i64 (zn : Int)] wr.drew (ListG wr.drew (Gr.ints (Gr.reachV (Gr.nat es) N zn)))) := Lib.hid (by
                  have := RE2.out wr.drew zn ⟨by omega, by omega⟩ (B4.out.trans (D8.out.mono B4.out.size))
                  rwa [Gr.reachI_eq HG.out] at this)
                have S0 := Lib.hid (And.intro x0 (And.intro x1 hc))
                have CZ : Hid (∀ w', Below wr.drew.heap.size wr.drew w' → w'.cell? ⟨b, off + k, none⟩ = some (.int .i64 (zn : Int))) := Lib.hid fun w' hw => (hw.cell (p := ⟨b, off + k, none⟩) (Nat.lt_of_lt_of_le hb.out D8.out.size)).trans hc
                clear hz1 hz2 hz
                go_wp2_with fail
                go_region_held3 (fun w' => w'.cell? ⟨w.heap.size, 0, none⟩ = some (.int .i64 (N : Int)) ∧ w'.cell? ⟨w.heap.size, 1, none⟩ = some (.slice A l cap) ∧ w'.cell? ⟨b, off + k, none⟩ = some (.int .i64 (zn : Int))) ((first | exact S0.out | exact S5.out | go_keep))
                  (first
                    | (go_simp; go_at_call 12; (with_reducible refine REz.out.mono ?_); rintro e w5 ⟨A5, c5, rfl, o5, b5⟩; have B5 := Lib.hid b5.out; have P5 : Hid (w5.heap[w.heap.size]? = some (.cells #[.int .i64 (N : Int), .slice A l cap] 25 (0, 0))) := Lib.hid ((b5.out.block _ (lt_of_block PS.out)).trans PS.out); have S5 := Lib.hid (And.intro (obG P5.out).1.1 (And.intro (obG P5.out).1.2 (CZ.out _ b5.out))); clear b5))
                have B9 : Hid (Below w4.heap.size w4 w5) := Lib.hid (D8.out.trans (B5.out.mono D8.out.size))
                have X5' : Hid (InB w5 X R m) := Lib.hid (by have h := XS.out; unfold InB at h ⊢; exact (B5.out.block _ (lt_of_block XS.out)).trans h)
                have ELC : Hid (∀ i, i < (Gr.reachV (Gr.nat es) N zn).length → ∃ z : Nat, (Gr.ints (Gr.reachV (Gr.nat es) N zn)).getD i 0 = (z : Int) ∧ z < N ∧ z ∈ Gr.reachV (Gr.nat es) N a) := Lib.hid fun i hi => by
                  obtain ⟨z, h1, h2, _⟩ := Gr.ints_at (Gr.reachV (Gr.nat es) N zn) i hi
                  have h3 := Gr.reach_trans (Gr.low_nat HG.out) hzm h2
                  exact ⟨z, h1, Gr.reach_lt h3, h3⟩
                have ZC : Hid (Zs w5 w5.heap.size A5 (Gr.ints (Gr.reachV (Gr.nat es) N zn))) := Lib.hid o5.out.zs
                have hc16 : (Gr.reachV (Gr.nat es) N zn).length ≤ 16 := by
                  have h2 : (Gr.reachV (Gr.nat es) N zn).length ≤ N := by
                    unfold Gr.reachV
                    exact Nat.le_trans (List.length_filter_le _ _) (by rw [List.length_range]; exact Nat.le_refl _)
                  omega
                have LC : Hid ((Gr.ints (Gr.reachV (Gr.nat es) N zn)).length = (Gr.reachV (Gr.nat es) N zn).length) := Lib.hid (Gr.ints_len _)
                rw [LC.out]
                obtain ⟨mc, hmc⟩ : ∃ mc, mc = (Gr.reachV (Gr.nat es) N zn).length := ⟨_, rfl⟩
                rw [← hmc] at ELC hc16 LC ⊢
                have BT : Hid (Below wq.heap.size wq w5) := Lib.hid (HB.out.drew.trans (B5.out.mono HB.out.drew.size))
                clear hmc o5 REz S0 S5 CZ XS PS D8 D7 HB hc x0 x1 hzm
                obtain ⟨wu, rfl⟩ : ∃ wu, wu = wr := ⟨_, rfl⟩
                go_wp2_with fail
                go_loopw [12] (fun iv wr => ∃ k : Nat, k ≤ mc ∧ iv = .int .i64 k ∧ Hid (Below w5.heap.size w5 wr)) (fun iv _ => mc - (intOf iv).toNat)
                case atStart => exact ⟨0, Nat.zero_le _, rfl, Lib.hid (Below.refl _ _)⟩
                case round =>
                  obtain ⟨k2, hk2, rfl, HB⟩ := hrel
                  have PR : Hid (wr.heap[w.heap.size]? = some (.cells #[.int .i64 (N : Int), .slice A l cap] 25 (0, 0))) := Lib.hid ((HB.out.block _ (lt_of_block P5.out)).trans P5.out)
                  have XR : Hid (InB wr X R m) := Lib.hid (by have h := X5'.out; unfold InB at h ⊢; exact (HB.out.block _ (lt_of_block X5'.out)).trans h)
                  obtain ⟨⟨x0, x1⟩, -⟩ := obG PR.out
                  by_cases hlt2 : k2 < mc
                  · have hlt2' : (k2 : Int) < (mc : Int) := by omega
                    obtain ⟨b3, off3, z3, hA3, hb3, hc3, hz3, _, _⟩ := (ZC.out.below HB.out).at_ (k := k2) (by rw [LC.out]; exact hlt2)
                    obtain ⟨yn, hz2, hyN, hym⟩ := ELC.out k2 hlt2
                    have hzz : z3 = (yn : Int) := hz3.out.symm.trans hz2
                    subst hzz
                    have hz16 : yn < 16 := by omega
                    have hyN' : (yn : Int) < (N : Int) := by omega
                    have hz16' : (yn : Int) < 16 := by omega
                    have hd1 : decide ((yn : Int) < 0) = false := decide_eq_false (by omega)
                    have hd2 : decide ((N : Int) ≤ (yn : Int)) = false := decide_eq_false (by omega)
                    have hd3 : decide (N ≤ yn) = false := decide_eq_false (by omega)
                    have hv := XR.out.cell yn hz16
                    rw [IN.out yn hym] at hv
                    subst hA3
                    clear hz3 hz2 hym
                    go_wp2_with fail
                    go_quiet (fail)
                    go_wp2
                    go_roundw
                    case rel => exact ⟨k2 + 1, by omega, by go_num, Lib.hid (below_n HB.out _)⟩
                    case measure => simp [intOf]; omega
                  · obtain rfl : mc = k2 := by omega
                    go_wp2
                    go_roundw
                    case rel => exact ⟨k + 1, by omega, by go_num, Lib.hid (BT.out.trans (HB.out.mono BT.out.size))⟩
                    case measure => simp [intOf]; omega
              · obtain rfl : m = k := by omega
                go_wp2
                go_ret
                exact ⟨rfl, Lib.hid (B4.out.trans (D7.out.mono B4.out.size))⟩
end Go.Proofs.Ytiapacbbfgihdaa
