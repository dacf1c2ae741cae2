/-
  Part 21 of the texts behind the law: GrLeast, GrCycle.
-/
import Derived.Test.YtkfopjhgkbbkiaaDoorDf14
import Derived.Test.YtkfopjhgkbbkiaaDoorDf8
/-
  Package graph: leastOnCycle, leastOnWay over a table of distances.
-/
namespace Go.Proofs.YtkfopjhgkbbkiaaDoor
open Go.RowKit
def CycPost (w : World) (r : Int × Int × Bool) (e : Ending) (w' : World) : Prop := e = .returned (.tuple #[.int .i64 r.1, .int .i64 r.2.1, .bool r.2.2]) ∧ Hid (Below w.heap.size w w')
theorem Gr.lc_none {F : Int → Int → Option Int} {k : Nat} (h : F k k = none) : Gr.lc F (k + 1) = Gr.lc F k := by
  show (match F k k with | some own => if !(Gr.lc F k).2.2 || decide (own < (Gr.lc F k).2.1) then ((k : Int), own, true) else Gr.lc F k | none => Gr.lc F k) = _
  rw [h]
theorem Gr.lc_at {F : Int → Int → Option Int} {k : Nat} {own : Int} (h : F k k = some own) : Gr.lc F (k + 1) = if !(Gr.lc F k).2.2 || decide (own < (Gr.lc F k).2.1) then ((k : Int), own, true) else Gr.lc F k := by
  show (match F k k with | some own => if !(Gr.lc F k).2.2 || decide (own < (Gr.lc F k).2.1) then ((k : Int), own, true) else Gr.lc F k | none => Gr.lc F k) = _
  rw [h]
set_option maxHeartbeats 4000000 in
theorem leastOnCycle_any (N : Nat) (hN : N ≤ 16) (A : Option Addr) (l cap g c : Nat) (F : Int → Int → Option Int) (w : World) (hM : GMap w g c F) :
    Calls Tryd.prog 27 #[.agg #[.int .i64 (N : Int), .slice A l cap], .map (some g)] w (CycPost w (Gr.lc F N)) := by
  obtain ⟨W1, hW1⟩ : ∃ W1, W1 = w.alloc (.cells #[.int .i64 (N : Int), .slice A l cap] 34) := ⟨_, rfl⟩
  have M1 : Hid (GMap W1 g c F) := Lib.hid (by rw [hW1]; exact hM.grew ((Below.refl _ _).alloc (Nat.le_refl _) _))
  have P1 : Hid (W1.heap[w.heap.size]? = some (.cells #[.int .i64 (N : Int), .slice A l cap] 34 (0, 0))) := Lib.hid (by rw [hW1]; exact heap_alloc_new ..)
  have B1 : Hid (Below w.heap.size w W1) := Lib.hid (by rw [hW1]; exact (Below.refl _ _).alloc (Nat.le_refl _) _)
  clear hM
  go_enter Tryd.func27, Tryd.ntmps27
  go_wp2_with fail
  rw [← hW1]
  clear hW1
  obtain ⟨⟨x0, x1⟩, -⟩ := obG P1.out
  go_wp2_with fail
  go_loop [4, 5, 6, 12] (fun nv lv bv iv => ∃ (k : Nat) (a b : Int) (ok : Bool), k ≤ N ∧ iv = .int .i64 k ∧ nv = .int .i64 a ∧ lv = .int .i64 b ∧ bv = .bool ok ∧ Hid (Gr.lc F k = (a, b, ok))) (fun _ _ _ iv => N - (intOf iv).toNat)
  case atStart => exact ⟨0, 0, 0, false, Nat.zero_le _, rfl, rfl, rfl, rfl, Lib.hid rfl⟩
  case round =>
    obtain ⟨k, a, b, ok, hk, rfl, rfl, rfl, rfl, HC⟩ := hrel
    by_cases hlt : k < N
    · have hlt' : (k : Int) < (N : Int) := by omega
      have ik : inI (k : Int) := ⟨by omega, by omega⟩
      cases hf : F k k with
      | none =>
        have hl1 := M1.out.no ik ik hf
        have HC' : Hid (Gr.lc F (k + 1) = (a, b, ok)) := Lib.hid ((Gr.lc_none hf).trans HC.out)
        clear hf ik
        go_wp2
        go_round
        case rel => exact ⟨k + 1, a, b, ok, by omega, by go_num, rfl, rfl, rfl, HC'⟩
        case measure => simp [intOf]; omega
      | some own =>
        have hl1 := M1.out.val ik ik hf
        have e1 := Gr.lc_at hf
        rw [HC.out] at e1
        cases ok with
        | false =>
          have HC' : Hid (Gr.lc F (k + 1) = ((k : Int), own, true)) := Lib.hid (e1.trans (by simp))
          clear hf ik e1
          go_wp2
          go_round
          case rel => exact ⟨k + 1, k, own, true, by omega, by go_num, rfl, rfl, rfl, HC'⟩
          case measure => simp [intOf]; omega
        | true =>
          by_cases hless : own < b
          · have HC' : Hid (Gr.lc F (k + 1) = ((k : Int), own, true)) := Lib.hid (e1.trans (by simp [hless]))
            clear hf ik e1
            go_wp2
            go_round
            case rel => exact ⟨k + 1, k, own, true, by omega, by go_num, rfl, rfl, rfl, HC'⟩
            case measure => simp [intOf]; omega
          · have HC' : Hid (Gr.lc F (k + 1) = (a, b, true)) := Lib.hid (e1.trans (by rw [if_neg (by simp; omega)]))
            clear hf ik e1
            go_wp2
            go_round
            case rel => exact ⟨k + 1, a, b, true, by omega, by go_num, rfl, rfl, rfl, HC'⟩
            case measure => simp [intOf]; omega
    · obtain rfl : k = N := by omega
      go_wp2
      exact bodyPost_ret (v := .tuple #[.int .i64 a, .int .i64 b, .bool ok]) (by simp [results, Tryd.results27, go_sem]) rfl ⟨by rw [HC.out], B1⟩
/-- The first c below k that passes. -/
theorem Gr.find_next {p : Nat → Bool} {k n : Nat} (hk : k < n) (h : ∀ i, i < k → p i = false) (hp : p k = true) : (List.range n).find? p = some k := by
  rw [List.find?_range_eq_some]
  exact ⟨hp, by simpa using hk, fun j hj => by rw [h j hj]; rfl⟩
theorem Gr.find_no {p : Nat → Bool} {n : Nat} (h : ∀ i, i < n → p i = false) : (List.range n).find? p = none := by
  rw [List.find?_eq_none]
  intro x hx
  rw [h x (by simpa using hx)]
  decide
set_option maxHeartbeats 4000000 in
theorem leastOnWay_any (N : Nat) (hN : N ≤ 16) (A : Option Addr) (es : Gr.EI) (l cap g c : Nat) (fr to r : Int) (hfr : inI fr) (hto : inI to) (w : World) (hM : GMap w g c (Gr.fin N es)) :
    Calls Tryd.prog 28 #[.agg #[.int .i64 (N : Int), .slice A l cap], .map (some g), .int .i64 fr, .int .i64 to, .int .i64 r] w (IntG w (Gr.wayV N es fr to r)) := by
  obtain ⟨W1, hW1⟩ : ∃ W1, W1 = w.alloc (.cells #[.int .i64 (N : Int), .slice A l cap] 34) := ⟨_, rfl⟩
  have M1 : Hid (GMap W1 g c (Gr.fin N es)) := Lib.hid (by rw [hW1]; exact hM.grew ((Below.refl _ _).alloc (Nat.le_refl _) _))
  have P1 : Hid (W1.heap[w.heap.size]? = some (.cells #[.int .i64 (N : Int), .slice A l cap] 34 (0, 0))) := Lib.hid (by rw [hW1]; exact heap_alloc_new ..)
  have B1 : Hid (Below w.heap.size w W1) := Lib.hid (by rw [hW1]; exact (Below.refl _ _).alloc (Nat.le_refl _) _)
  have HFR := Lib.hid hfr
  have HTO := Lib.hid hto
  clear hM hfr hto
  go_enter Tryd.func28, Tryd.ntmps28
  go_wp2_with fail
  rw [← hW1]
  clear hW1
  obtain ⟨⟨x0, x1⟩, -⟩ := obG P1.out
  go_wp2_with fail
  go_loop [14] (fun iv => ∃ k : Nat, k ≤ N ∧ iv = .int .i64 k ∧ Hid (∀ i, i < k → Gr.nextP N es fr to r i = false)) (fun iv => N - (intOf iv).toNat)
  case atStart => exact ⟨0, Nat.zero_le _, rfl, Lib.hid fun i hi => by omega⟩
  case round =>
    obtain ⟨k, hk, rfl, HC⟩ := hrel
    by_cases hlt : k < N
    · have hlt' : (k : Int) < (N : Int) := by omega
      have ik : inI (k : Int) := ⟨by omega, by omega⟩
      have hl1 := M1.out.look fr k HFR.out ik
      have hl2 := M1.out.look k to ik HTO.out
      have E : Hid (Gr.nextP N es fr to r k = (((Gr.fin N es fr k).getD 0 == 1) && ((Gr.fin N es k to).getD 0 == r))) := Lib.hid rfl
      generalize (Gr.fin N es fr k).getD 0 = u at *
      generalize (Gr.fin N es k to).getD 0 = v at *
      clear ik
      by_cases hu : u = 1
      · subst hu
        by_cases hv : v = r
        · subst hv
          have G0 : Hid (Gr.wayV N es fr to v = (k : Int)) := Lib.hid (by unfold Gr.wayV; rw [Int.toNat_natCast, Gr.find_next hlt HC.out (E.out.trans (by simp))])
          go_wp2
          go_ret
          exact ⟨ret_int G0.out.symm, B1⟩
        · have hd : (v == r) = false := by simpa using hv
          have HC' : Hid (∀ i, i < k + 1 → Gr.nextP N es fr to r i = false) := Lib.hid fun i hi => by
            rcases Nat.lt_or_ge i k with h | h
            · exact HC.out i h
            · obtain rfl : i = k := by omega
              rw [E.out, hd, Bool.and_false]
          clear hv
          go_wp2
          go_round
          case rel => exact ⟨k + 1, by omega, by go_num, HC'⟩
          case measure => simp [intOf]; omega
      · have hd : (u == 1) = false := by simpa using hu
        have HC' : Hid (∀ i, i < k + 1 → Gr.nextP N es fr to r i = false) := Lib.hid fun i hi => by
          rcases Nat.lt_or_ge i k with h | h
          · exact HC.out i h
          · obtain rfl : i = k := by omega
            rw [E.out, hd, Bool.false_and]
        clear hu
        go_wp2
        go_round
        case rel => exact ⟨k + 1, by omega, by go_num, HC'⟩
        case measure => simp [intOf]; omega
    · obtain rfl : k = N := by omega
      have G0 : Hid (Gr.wayV k es fr to r = to) := Lib.hid (by unfold Gr.wayV; rw [Int.toNat_natCast, Gr.find_no HC.out])
      go_wp2
      go_ret
      exact ⟨ret_int G0.out.symm, B1⟩
end Go.Proofs.YtkfopjhgkbbkiaaDoor
/-
  Package graph: Cycle at every graph.
-/
namespace Go.Proofs.YtkfopjhgkbbkiaaDoor
open Go.RowKit
/-- The list so far: Ls, whose last node is x, after i steps of k. -/
structure Gr.Sofar (es : Gr.E) (N f k i x : Nat) (Ls : List Int) : Prop where
  le : i ≤ k
  len : Ls.length = i + 1
  last : Ls.getD i 0 = (x : Int)
  fore : Gr.rk es i f x = true
  back : Gr.rk es (k - i + 1) x f = true
  rest : Ls ++ Gr.ints (Gr.grow es N f (k - i) x) = Gr.ints (f :: Gr.grow es N f k f)
theorem Gr.Sofar.start {es : Gr.E} {N f k : Nat} (h : Gr.rk es (k + 1) f f = true) : Gr.Sofar es N f k 0 f [(f : Int)] :=
  ⟨Nat.zero_le _, rfl, rfl, by simp [Gr.rk], by rw [Nat.sub_zero]; exact h, by rw [Nat.sub_zero]; rfl⟩
theorem Gr.Sofar.next {N : Nat} {n : Int} {es : Gr.EI} {f k i x : Nat} {Ls : List Int} (hn : n.toNat = N) (h : Gr.Sofar (Gr.nat es) N f k i x Ls) (hi : i < k) (hG : Gr.Good n es) (hm : ∀ j a, 1 ≤ j → j ≤ k → Gr.rk (Gr.nat es) j a a = false) :
    ∃ b : Nat, Gr.wayV n es x f ((k : Int) + 1 - ((i + 1 : Nat) : Int)) = (b : Int) ∧ b < N ∧ Gr.Sofar (Gr.nat es) N f k (i + 1) b (Ls ++ [(b : Int)]) := by
  subst hn
  obtain ⟨m, hmm⟩ : ∃ m, k = i + m + 1 := ⟨k - i - 1, by omega⟩
  have e1 : k - i = m + 1 := by omega
  have e2 : k - (i + 1) = m := by omega
  have hb := h.back
  rw [e1] at hb
  obtain ⟨b, h1, h2, _, h3, h4, h5⟩ := hG.grow_step (m := m) (by omega) hm h.fore hb
  refine ⟨b, ?_, h5, by omega, by simp [h.len], ?_, h3, by rw [e2]; exact h4, ?_⟩
  · rw [show (k : Int) + 1 - ((i + 1 : Nat) : Int) = (m : Int) + 1 by omega]
    exact h2
  · rw [List.getD_eq_getElem?_getD, List.getElem?_append_right (by rw [h.len]; omega), h.len, Nat.sub_self]
    rfl
  · have := h.rest
    rw [e1, h1] at this
    rw [e2, ← this, List.append_assoc]
    rfl
theorem Gr.Sofar.done {es : Gr.E} {N f k x : Nat} {Ls : List Int} (h : Gr.Sofar es N f k k x Ls) : Ls = Gr.ints (f :: Gr.grow es N f k f) := by
  have := h.rest
  rw [Nat.sub_self] at this
  rw [← this]
  exact (List.append_nil Ls).symm
set_option maxHeartbeats 8000000 in
theorem cycle_any (n : Int) (A : Option Addr) (es : Gr.EI) (cap : Nat) (hl : es.length ≤ 9223372036854775807) (w : World) (h : Edg w w.heap.size A es) :
    Calls Tryd.prog 14 #[.agg #[.int .i64 n, .slice A es.length cap]] w (ListG w (Gr.cycleI n es)) := by
  have H := Lib.hid h
  have GD : Hid (∀ W, Below w.heap.size w W → Calls Tryd.prog 25 #[.agg #[.int .i64 n, .slice A es.length cap]] W (BoolG W (Gr.goodV n es))) := Lib.hid fun W hW => good_any n A es cap (by omega) W (h.on hW)
  have SH : Hid (∀ W, Below w.heap.size w W → ∀ N : Nat, n = (N : Int) → Gr.Good n es → Calls Tryd.prog 26 #[.agg #[.int .i64 n, .slice A es.length cap]] W (TabG W (Gr.fin n es))) := Lib.hid fun W hW N e hg => by
    subst e
    exact shortest_any N A es cap (Nat.le_trans (Gr.Good.len hg) (by decide)) hg W (h.on hW)
  generalize es.length = l at *
  clear h hl
  obtain ⟨W1, hW1⟩ : ∃ W1, W1 = w.alloc (.cells #[.int .i64 n, .slice A l cap] 34) := ⟨_, rfl⟩
  have P1 : Hid (W1.heap[w.heap.size]? = some (.cells #[.int .i64 n, .slice A l cap] 34 (0, 0))) := Lib.hid (by rw [hW1]; exact heap_alloc_new ..)
  have B1 : Hid (Below w.heap.size w W1) := Lib.hid (by rw [hW1]; exact (Below.refl _ _).alloc (Nat.le_refl _) _)
  cases hg : Gr.goodV n es with
  | false =>
    rw [hg] at GD
    have E : Hid (Gr.cycleI n es = []) := Lib.hid (by unfold Gr.cycleI; rw [hg]; rfl)
    clear hg
    go_enter Tryd.func14, Tryd.ntmps14
    go_wp2_with fail
    rw [← hW1]
    clear hW1
    obtain ⟨⟨x0, x1⟩, -⟩ := obG P1.out
    go_wp2_with fail
    (with_reducible refine (GD.out _ B1.out).mono ?_); rintro e w2 ⟨rfl, b2⟩
    go_wp2
    go_ret
    rw [E.out]
    exact ⟨none, 0, rfl, Lib.hid (OwnZ.none_ _ _), Lib.hid (B1.out.trans (b2.out.mono B1.out.size))⟩
  | true =>
    rw [hg] at GD
    have G := Gr.goodV_iff.1 hg
    obtain ⟨N, hN⟩ : ∃ N : Nat, n = (N : Int) := ⟨n.toNat, by have := G.n0; omega⟩
    have hN16 : N ≤ 16 := by have := G.n16; omega
    have E : Hid (Gr.cycleI n es = Gr.ints (Gr.cycleV (Gr.nat es) N)) := Lib.hid (by rw [Gr.cycleI_good G, hN, Int.toNat_natCast])
    have SH2 : Hid (∀ W, Below w.heap.size w W → Calls Tryd.prog 26 #[.agg #[.int .i64 n, .slice A l cap]] W (TabG W (Gr.fin N es))) := Lib.hid fun W hW => by
      have := SH.out W hW N hN G
      rwa [hN] at this ⊢
    subst hN
    have HG := Lib.hid G
    clear hg G SH
    go_enter Tryd.func14, Tryd.ntmps14
    go_wp2_with fail
    rw [← hW1]
    clear hW1
    obtain ⟨⟨x0, x1⟩, -⟩ := obG P1.out
    go_wp2_with fail
    (with_reducible refine (GD.out _ B1.out).mono ?_); rintro e w2 ⟨rfl, b2⟩
    have P2 : Hid (w2.heap[w.heap.size]? = some (.cells #[.int .i64 (N : Int), .slice A l cap] 34 (0, 0))) := Lib.hid ((b2.out.block _ (lt_of_block P1.out)).trans P1.out)
    have B2 : Hid (Below w.heap.size w w2) := Lib.hid (B1.out.trans (b2.out.mono B1.out.size))
    clear b2
    obtain ⟨⟨y0, y1⟩, -⟩ := obG P2.out
    go_wp2_with fail
    (with_reducible refine (SH2.out _ B2.out).mono ?_); rintro e w3 ⟨g, rfl, hgb, m3, b3⟩
    have P3 : Hid (w3.heap[w.heap.size]? = some (.cells #[.int .i64 (N : Int), .slice A l cap] 34 (0, 0))) := Lib.hid ((b3.out.block _ (lt_of_block P2.out)).trans P2.out)
    have B3 : Hid (Below w.heap.size w w3) := Lib.hid (B2.out.trans (b3.out.mono B2.out.size))
    clear b3 hgb
    obtain ⟨⟨z0, z1⟩, -⟩ := obG P3.out
    have LC : Hid (∀ r, Gr.lc (Gr.fin N es) N = r → Calls Tryd.prog 27 #[.agg #[.int .i64 (N : Int), .slice A l cap], .map (some g)] w3 (CycPost w3 r)) := Lib.hid fun r hr => by
      subst hr
      exact leastOnCycle_any N hN16 A l cap g 1000000 (Gr.fin N es) w3 m3.out
    cases hb : (Gr.lc (Gr.fin N es) N).2.2 with
    | false =>
      obtain ⟨a0, b0, hr⟩ : ∃ a0 b0, Gr.lc (Gr.fin N es) N = (a0, b0, false) := ⟨_, _, Prod.ext rfl (Prod.ext rfl hb)⟩
      have LC2 := Lib.hid (LC.out _ hr)
      have E2 : Hid (Gr.cycleI N es = []) := Lib.hid (by
        have h1 := HG.out.lc_none
        rw [Int.toNat_natCast] at h1
        rw [E.out, h1.1 hb]; rfl)
      clear hb hr LC
      go_wp2_with fail
      (with_reducible refine LC2.out.mono ?_); rintro e w4 ⟨rfl, b4⟩
      go_wp2
      go_ret
      rw [E2.out]
      exact ⟨none, 0, rfl, Lib.hid (OwnZ.none_ _ _), Lib.hid (B3.out.trans (b4.out.mono B3.out.size))⟩
    | true =>
      obtain ⟨f, k, hf, hk, hr, hcyc, hrk, hmin⟩ := HG.out.lc_some (by rw [Int.toNat_natCast]; exact hb)
      rw [Int.toNat_natCast] at hf hk hr hcyc
      have LC2 := Lib.hid (LC.out _ hr)
      have E2 : Hid (Gr.cycleI N es = Gr.ints (f :: Gr.grow (Gr.nat es) N f k f)) := Lib.hid (by rw [E.out, hcyc])
      have ST : Hid (Gr.Sofar (Gr.nat es) N f k 0 f [(f : Int)]) := Lib.hid (Gr.Sofar.start hrk)
      have MN := Lib.hid hmin
      obtain ⟨L, hL⟩ : ∃ L : Int, L = (k : Int) + 1 := ⟨_, rfl⟩
      have HL := Lib.hid hL
      have LC3 : Hid (Calls Tryd.prog 27 #[.agg #[.int .i64 (N : Int), .slice A l cap], .map (some g)] w3 (CycPost w3 ((f : Int), L, true))) := Lib.hid (by rw [hL]; exact LC2.out)
      clear hb hr LC LC2 hcyc hrk hmin hL E
      go_wp2_with fail
      (with_reducible refine LC3.out.mono ?_); rintro e w4 ⟨rfl, b4⟩
      have P4 : Hid (w4.heap[w.heap.size]? = some (.cells #[.int .i64 (N : Int), .slice A l cap] 34 (0, 0))) := Lib.hid ((b4.out.block _ (lt_of_block P3.out)).trans P3.out)
      have B4 : Hid (Below w.heap.size w w4) := Lib.hid (B3.out.trans (b4.out.mono B3.out.size))
      have M4 : Hid (GMap w4 g 1000000 (Gr.fin N es)) := Lib.hid (m3.out.grew b4.out)
      clear b4 m3
      have O4 : Hid (OwnZ (w4.alloc (.cells #[.int .i64 (f : Int)] 3)) w4.heap.size (some ⟨w4.heap.size, 0, none⟩) 1 [(f : Int)]) := Lib.hid (OwnZ.lit [(f : Int)] (fun z hz => by simp at hz; subst hz; exact ⟨by omega, by omega⟩) (by simp) #[.int .i64 (f : Int)] rfl)
      go_wp2_with fail
      go_loopw [7] (fun lv wr => ∃ (i x m : Nat) (Ls : List Int) (A' : Option Addr) (cap' : Nat), lv = .slice A' m cap' ∧ Hid (m = i + 1) ∧ Hid (Gr.Sofar (Gr.nat es) N f k i x Ls) ∧ x < N ∧ Hid (OwnZ wr w4.heap.size A' cap' Ls) ∧ Hid (Below w4.heap.size w4 wr)) (fun lv _ => (k + 1) - lenZ lv)
      case atStart => exact ⟨0, f, 1, _, _, _, rfl, Lib.hid rfl, ST, hf, O4, Lib.hid ((Below.refl _ _).alloc (Nat.le_refl _) _)⟩
      case round =>
        clear O4 ST
        obtain ⟨i, x, m, Ls, A', cap', rfl, HM, HS, hx, HO, HB⟩ := hrel
        have PR : Hid (wr.heap[w.heap.size]? = some (.cells #[.int .i64 (N : Int), .slice A l cap] 34 (0, 0))) := Lib.hid ((HB.out.block _ (lt_of_block P4.out)).trans P4.out)
        obtain ⟨⟨v0, v1⟩, -⟩ := obG PR.out
        have hik := HS.out.le
        by_cases hlt : i < k
        · have hlt' : (m : Int) < L := by have := HM.out; have := HL.out; omega
          obtain ⟨gl, hA, hgl1, hgl2⟩ := HO.out.shape (by rw [HS.out.len]; omega)
          subst hA
          obtain ⟨bb, off, z, he, _, hc, hz, _, _⟩ := HO.out.zs.at_ (k := i) (by rw [HS.out.len]; omega)
          injection he with he
          injection he with he1 he2
          subst he1 he2
          rw [HS.out.last] at hz
          have hz' : (x : Int) = z := hz.out
          subst hz'
          rw [Nat.zero_add] at hc
          obtain ⟨b, hway, hbn, hnext⟩ := HS.out.next (by rw [Int.toNat_natCast]) hlt HG.out MN.out
          have HNX := Lib.hid hnext
          have hw1 : IntKind.i64.wrap ((m : Int) - 1) = (i : Int) := by have := HM.out; rw [IntWalk.i64_in _ (by omega)]; omega
          obtain ⟨r, hr⟩ : ∃ r : Int, r = L - (m : Int) := ⟨_, rfl⟩
          have hw2 : IntKind.i64.wrap (L - (m : Int)) = r := by have := HM.out; have := HL.out; rw [IntWalk.i64_in _ (by omega), hr]
          have LW : Hid (Calls Tryd.prog 28 #[.agg #[.int .i64 (N : Int), .slice A l cap], .map (some g), .int .i64 (x : Int), .int .i64 (f : Int), .int .i64 r] wr.drew (IntG wr.drew (b : Int))) := Lib.hid (by
            have e : Gr.wayV N es x f r = (b : Int) := by rw [hr, HL.out, HM.out]; exact hway
            rw [← e]
            exact leastOnWay_any N hN16 A es l cap g 1000000 x f r ⟨by omega, by omega⟩ ⟨by omega, by omega⟩ wr.drew (M4.out.grew HB.out.drew))
          have hmi : i < m := by have := HM.out; omega
          have LEN : Hid (m = Ls.length) := Lib.hid (by rw [HM.out, HS.out.len])
          have IB : Hid (inI (b : Int)) := Lib.hid ⟨by omega, by omega⟩
          have HOd : Hid (OwnZ wr.drew w4.heap.size (some ⟨gl, 0, none⟩) cap' Ls) := Lib.hid HO.out
          have HBd : Hid (Below w4.heap.size w4 wr.drew) := Lib.hid HB.out.drew
          have S0 : Hid (wr.drew.cell? ⟨w.heap.size, 0, none⟩ = some (.int .i64 (N : Int)) ∧ wr.drew.cell? ⟨w.heap.size, 1, none⟩ = some (.slice A l cap) ∧ wr.drew.cell? ⟨gl, i, none⟩ = some (.int .i64 (x : Int))) := Lib.hid ⟨v0, v1, hc⟩
          have CZ : Hid (∀ W, OwnZ W w4.heap.size (some ⟨gl, 0, none⟩) cap' Ls → W.cell? ⟨gl, i, none⟩ = some (.int .i64 (x : Int))) := Lib.hid fun W hW => by
            obtain ⟨bb, off, z, he, _, hc, hz, _, _⟩ := hW.zs.at_ (k := i) (by rw [HS.out.len]; omega)
            injection he with he
            injection he with he1 he2
            subst he1 he2
            rw [HS.out.last] at hz
            rw [hz.out, Nat.zero_add] at *
            exact hc
          clear hr hz hway hnext hc hgl1 hgl2
          go_wp2_with fail
          go_region_held3 (fun w' => w'.cell? ⟨w.heap.size, 0, none⟩ = some (.int .i64 (N : Int)) ∧ w'.cell? ⟨w.heap.size, 1, none⟩ = some (.slice A l cap) ∧ w'.cell? ⟨gl, i, none⟩ = some (.int .i64 (x : Int))) ((first | exact S0.out | exact S5.out | exact S6.out | go_keep))
            (first
              | (go_simp; go_at_call 28; (with_reducible refine LW.out.mono ?_); rintro e w5 ⟨rfl, b5⟩; have O5 := Lib.hid (HOd.out.grew b5.out (Nat.le_refl _)); have B5 := Lib.hid (HBd.out.trans (b5.out.mono HBd.out.size)); have P5 : Hid (w5.heap[w.heap.size]? = some (.cells #[.int .i64 (N : Int), .slice A l cap] 34 (0, 0))) := Lib.hid ((b5.out.block _ (lt_of_block PR.out)).trans PR.out); have S5 := Lib.hid (And.intro (obG P5.out).1.1 (And.intro (obG P5.out).1.2 (CZ.out _ O5.out))); clear b5)
              | (refine step_appZ4 (by rfl) _ _ (by rfl) (by rfl) LEN.out (O5.out.grew ((Below.refl _ _).alloc (Nat.le_refl _) _) (Nat.le_refl _)) (by have := B5.out.size; simp; omega) (by rfl) (cell_litN (by simp)) IB.out (by have := LEN.out; have := HM.out; omega) ?_; intro A6 c6 w6 o6 d6 k6; have O6 := Lib.hid o6; have D6 := Lib.hid (grownZ_below (O5.out.grew ((Below.refl _ _).alloc (Nat.le_refl _) _) (Nat.le_refl _)) (by have := B5.out.size; simp; omega) d6); have P6 : Hid (w6.heap[w.heap.size]? = some (.cells #[.int .i64 (N : Int), .slice A l cap] 34 (0, 0))) := Lib.hid ((D6.out.block _ (lt_of_block P4.out)).trans ((Below.heap_alloc _ _ _ (lt_of_block P5.out)).trans P5.out)); have S6 := Lib.hid (And.intro (obG P6.out).1.1 (And.intro (obG P6.out).1.2 (CZ.out _ k6))); clear o6 d6 k6))
          have BE : Hid (Below w4.heap.size w4 w6) := Lib.hid ((B5.out.alloc B5.out.size _).trans D6.out)
          clear S0 S5 S6 P5 P6 O5 B5 D6 HOd HBd LW CZ hw1 hw2
          go_wp2
          go_roundw
          case rel => exact ⟨i + 1, b, _, _, A6, c6, rfl, Lib.hid (by rw [HS.out.len]), HNX, hbn, O6, BE⟩
          case measure => (have h1 := HM.out; have h2 := HS.out.len; simp [lenZ]; omega)
        · obtain rfl : i = k := by omega
          have hlt' : L ≤ (m : Int) := by have := HM.out; have := HL.out; omega
          have DN := Lib.hid HS.out.done
          have LEN : Hid (m = (Gr.cycleI N es).length) := Lib.hid (by rw [E2.out, ← DN.out, HM.out, HS.out.len])
          go_wp2
          go_ret
          exact ⟨A', cap', by rw [← LEN.out]; rfl, Lib.hid (by rw [E2.out, ← DN.out]; exact HO.out.low B4.out.size), Lib.hid (B4.out.trans (HB.out.mono B4.out.size))⟩
end Go.Proofs.YtkfopjhgkbbkiaaDoor
