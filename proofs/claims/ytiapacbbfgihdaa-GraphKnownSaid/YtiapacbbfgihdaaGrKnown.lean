/-
  The law GraphKnown walked.
-/
import Derived.Test.YtiapacbbfgihdaaGrThree
import Derived.Test.YtiapacbbfgihdaaGrShort
import Derived.Test.YtiapacbbfgihdaaGrCycle
import Derived.Test.YtiapacbbfgihdaaGrAcross
import Derived.Test.YtiapacbbfgihdaaKeepCell
namespace Go.Proofs.Ytiapacbbfgihdaa
open Go.RowKit
def badN : Nat → Int
  | 0 => -1
  | 1 => 17
  | _ => 2
def badE : Nat → List (Int × Int)
  | 0 => []
  | 1 => []
  | 2 => [(0, 2)]
  | 3 => [(1, 1)]
  | 4 => [(0, 1), (0, 1)]
  | _ => [(-1, 1)]
theorem bad_no (k : Nat) (h : k < 6) : Gr.goodV (badN k) (badE k) = false := by
  match k, h with
  | 0, _ => decide +kernel
  | 1, _ => decide +kernel
  | 2, _ => decide +kernel
  | 3, _ => decide +kernel
  | 4, _ => decide +kernel
  | 5, _ => decide +kernel
theorem bad_len (k : Nat) : (badE k).length ≤ 2 := by
  match k with
  | 0 => decide
  | 1 => decide
  | 2 => decide
  | 3 => decide
  | 4 => decide
  | k + 5 => exact (by decide : ([(-1, 1)] : List (Int × Int)).length ≤ 2)
def badW (w2 : World) : World :=
  (((((w2.alloc (.cells #[.int .i64 0, .int .i64 2] 27)).alloc (.cells #[.int .i64 1, .int .i64 1] 27)).alloc (.cells #[.int .i64 0, .int .i64 1, .int .i64 0, .int .i64 1] 27)).alloc (.cells #[.int .i64 (-1), .int .i64 1] 27)).alloc
    (.cells #[.int .i64 (-1), .slice none 0 0, .int .i64 17, .slice none 0 0, .int .i64 2, .slice (some ⟨w2.heap.size, 0, none⟩) 1 1, .int .i64 2, .slice (some ⟨w2.heap.size + 1, 0, none⟩) 1 1, .int .i64 2, .slice (some ⟨w2.heap.size + 1 + 1, 0, none⟩) 2 2, .int .i64 2, .slice (some ⟨w2.heap.size + 1 + 1 + 1, 0, none⟩) 1 1] 25))
theorem Below.new (w : World) (o : Obj) : Below w.heap.size w (w.alloc o) := (Below.refl _ _).alloc (Nat.le_refl _) _
theorem bad_laid (w2 : World) (k : Nat) (hk : k < 6) : ∃ A, (badW w2).cell? ⟨w2.heap.size + 1 + 1 + 1 + 1, k * 2, none⟩ = some (.int .i64 (badN k)) ∧ (badW w2).cell? ⟨w2.heap.size + 1 + 1 + 1 + 1, k * 2 + 1, none⟩ = some (.slice A (badE k).length (badE k).length) ∧ Edg (badW w2) (badW w2).heap.size A (badE k) := by
  obtain ⟨u1, h1⟩ : ∃ u, u = w2.alloc (.cells #[.int .i64 0, .int .i64 2] 27) := ⟨_, rfl⟩
  obtain ⟨u2, h2⟩ : ∃ u, u = u1.alloc (.cells #[.int .i64 1, .int .i64 1] 27) := ⟨_, rfl⟩
  obtain ⟨u3, h3⟩ : ∃ u, u = u2.alloc (.cells #[.int .i64 0, .int .i64 1, .int .i64 0, .int .i64 1] 27) := ⟨_, rfl⟩
  obtain ⟨u4, h4⟩ : ∃ u, u = u3.alloc (.cells #[.int .i64 (-1), .int .i64 1] 27) := ⟨_, rfl⟩
  have s1 : u1.heap.size = w2.heap.size + 1 := by rw [h1, World.size_alloc]
  have s2 : u2.heap.size = w2.heap.size + 1 + 1 := by rw [h2, World.size_alloc, s1]
  have s3 : u3.heap.size = w2.heap.size + 1 + 1 + 1 := by rw [h3, World.size_alloc, s2]
  have s4 : u4.heap.size = w2.heap.size + 1 + 1 + 1 + 1 := by rw [h4, World.size_alloc, s3]
  have E1 : Edg u1 u1.heap.size (some ⟨w2.heap.size, 0, none⟩) [(0, 2)] := by rw [h1]; exact (OwnE.lit (w := w2) (T := 27) [(0, 2)] (small_E _ (by decide)) (by decide) _ rfl).edg
  have E2 : Edg u2 u2.heap.size (some ⟨u1.heap.size, 0, none⟩) [(1, 1)] := by rw [h2]; exact (OwnE.lit (w := u1) (T := 27) [(1, 1)] (small_E _ (by decide)) (by decide) _ rfl).edg
  have E3 : Edg u3 u3.heap.size (some ⟨u2.heap.size, 0, none⟩) [(0, 1), (0, 1)] := by rw [h3]; exact (OwnE.lit (w := u2) (T := 27) [(0, 1), (0, 1)] (small_E _ (by decide)) (by decide) _ rfl).edg
  have E4 : Edg u4 u4.heap.size (some ⟨u3.heap.size, 0, none⟩) [(-1, 1)] := by rw [h4]; exact (OwnE.lit (w := u3) (T := 27) [(-1, 1)] (small_E _ (by decide)) (by decide) _ rfl).edg
  have b2 : Below u1.heap.size u1 u2 := by rw [h2]; exact Below.new _ _
  have b3 : Below u2.heap.size u2 u3 := by rw [h3]; exact Below.new _ _
  have b4 : Below u3.heap.size u3 u4 := by rw [h4]; exact Below.new _ _
  have hW : badW w2 = u4.alloc (.cells #[.int .i64 (-1), .slice none 0 0, .int .i64 17, .slice none 0 0, .int .i64 2, .slice (some ⟨w2.heap.size, 0, none⟩) 1 1, .int .i64 2, .slice (some ⟨w2.heap.size + 1, 0, none⟩) 1 1, .int .i64 2, .slice (some ⟨w2.heap.size + 1 + 1, 0, none⟩) 2 2, .int .i64 2, .slice (some ⟨w2.heap.size + 1 + 1 + 1, 0, none⟩) 1 1] 25) := by rw [h4, h3, h2, h1]; rfl
  have b5 : Below u4.heap.size u4 (badW w2) := by rw [hW]; exact Below.new _ _
  have hb : (badW w2).heap[w2.heap.size + 1 + 1 + 1 + 1]? = some (.cells #[.int .i64 (-1), .slice none 0 0, .int .i64 17, .slice none 0 0, .int .i64 2, .slice (some ⟨w2.heap.size, 0, none⟩) 1 1, .int .i64 2, .slice (some ⟨w2.heap.size + 1, 0, none⟩) 1 1, .int .i64 2, .slice (some ⟨w2.heap.size + 1 + 1, 0, none⟩) 2 2, .int .i64 2, .slice (some ⟨w2.heap.size + 1 + 1 + 1, 0, none⟩) 1 1] 25 (0, 0)) := by rw [hW, ← s4]; exact heap_alloc_new ..
  have F1 := ((((E1.on b2).on b3).on b4).on b5)
  have F2 := (((E2.on b3).on b4).on b5)
  have F3 := ((E3.on b4).on b5)
  have F4 := (E4.on b5)
  rw [s1] at F2
  rw [s2] at F3
  rw [s3] at F4
  match k, hk with
  | 0, _ => exact ⟨none, by simp [World.cell?, hb, badN], by simp [World.cell?, hb, badE], Edg.nil_⟩
  | 1, _ => exact ⟨none, by simp [World.cell?, hb, badN], by simp [World.cell?, hb, badE], Edg.nil_⟩
  | 2, _ => exact ⟨_, by simp [World.cell?, hb, badN], by simp [World.cell?, hb, badE], F1⟩
  | 3, _ => exact ⟨_, by simp [World.cell?, hb, badN], by simp [World.cell?, hb, badE], F2⟩
  | 4, _ => exact ⟨_, by simp [World.cell?, hb, badN], by simp [World.cell?, hb, badE], F3⟩
  | 5, _ => exact ⟨_, by simp [World.cell?, hb, badN], by simp [World.cell?, hb, badE], F4⟩
theorem bad_below (w2 : World) : Below w2.heap.size w2 (badW w2) := by
  unfold badW
  refine (((((Below.refl _ _).alloc ?_ _).alloc ?_ _).alloc ?_ _).alloc ?_ _).alloc ?_ _ <;> simp <;> omega
theorem lt_of_at {w : World} {b o : Nat} {v : Value} (h : w.cell? ⟨b, o, none⟩ = some v) : b < w.heap.size := by
  rcases Nat.lt_or_ge b w.heap.size with h1 | h1
  · exact h1
  · simp [World.cell?, Array.getElem?_eq_none h1] at h
def knownG : List (Int × Int) := [(4, 3), (3, 4), (0, 1), (1, 2), (2, 0), (2, 3)]
def knownH : List (Int × Int) := [(3, 1), (1, 3), (2, 0), (0, 2)]
theorem k_good0 : Gr.goodV 0 [] = true := by decide +kernel
theorem k_cyc : Gr.cycleI 5 knownG = [3, 4] := by decide +kernel
theorem k_cycH : Gr.cycleI 4 knownH = [0, 2] := by decide +kernel
theorem k_cyc3 : Gr.cycleI 3 threeE = [] := by decide +kernel
theorem k_ahead : Gr.aheadI 5 knownG 3 = [2, 4] := by decide +kernel
theorem k_ahead5 : Gr.aheadI 5 knownG 5 = [] := by decide +kernel
theorem k_behind : Gr.behindI 5 knownG 2 = [0, 3] := by decide +kernel
theorem k_reach0 : Gr.reachI 5 knownG 0 = [0, 1, 2, 3, 4] := by decide +kernel
theorem k_reach3 : Gr.reachI 5 knownG 3 = [3, 4] := by decide +kernel
theorem k_short : Gr.shortI 5 knownG = [(4, 3), (3, 4), (0, 1), (1, 2), (2, 0), (2, 3)] := by decide +kernel
def knownW (w : World) : World :=
  ((((w.alloc (.cells #[.int .i64 4, .int .i64 3, .int .i64 3, .int .i64 4, .int .i64 0, .int .i64 1, .int .i64 1, .int .i64 2, .int .i64 2, .int .i64 0, .int .i64 2, .int .i64 3] 27)).alloc (.cells #[.int .i64 5, .slice (some ⟨w.heap.size, 0, none⟩) 6 6] 25)).alloc
    (.cells #[.int .i64 3, .int .i64 1, .int .i64 1, .int .i64 3, .int .i64 2, .int .i64 0, .int .i64 0, .int .i64 2] 27)).alloc (.cells #[.int .i64 4, .slice (some ⟨w.heap.size + 1 + 1, 0, none⟩) 4 4] 25))
theorem known_laid (w : World) : (knownW w).heap[w.heap.size + 1]? = some (.cells #[.int .i64 5, .slice (some ⟨w.heap.size, 0, none⟩) 6 6] 25 (0, 0)) ∧ (knownW w).heap[w.heap.size + 1 + 1 + 1]? = some (.cells #[.int .i64 4, .slice (some ⟨w.heap.size + 1 + 1, 0, none⟩) 4 4] 25 (0, 0)) ∧
    Edg (knownW w) (knownW w).heap.size (some ⟨w.heap.size, 0, none⟩) knownG ∧ Edg (knownW w) (knownW w).heap.size (some ⟨w.heap.size + 1 + 1, 0, none⟩) knownH ∧ Below w.heap.size w (knownW w) := by
  obtain ⟨u1, h1⟩ : ∃ u, u = w.alloc (.cells #[.int .i64 4, .int .i64 3, .int .i64 3, .int .i64 4, .int .i64 0, .int .i64 1, .int .i64 1, .int .i64 2, .int .i64 2, .int .i64 0, .int .i64 2, .int .i64 3] 27) := ⟨_, rfl⟩
  obtain ⟨u2, h2⟩ : ∃ u, u = u1.alloc (.cells #[.int .i64 5, .slice (some ⟨w.heap.size, 0, none⟩) 6 6] 25) := ⟨_, rfl⟩
  obtain ⟨u3, h3⟩ : ∃ u, u = u2.alloc (.cells #[.int .i64 3, .int .i64 1, .int .i64 1, .int .i64 3, .int .i64 2, .int .i64 0, .int .i64 0, .int .i64 2] 27) := ⟨_, rfl⟩
  have hW : knownW w = u3.alloc (.cells #[.int .i64 4, .slice (some ⟨w.heap.size + 1 + 1, 0, none⟩) 4 4] 25) := by rw [h3, h2, h1]; rfl
  have s1 : u1.heap.size = w.heap.size + 1 := by rw [h1, World.size_alloc]
  have s2 : u2.heap.size = w.heap.size + 1 + 1 := by rw [h2, World.size_alloc, s1]
  have s3 : u3.heap.size = w.heap.size + 1 + 1 + 1 := by rw [h3, World.size_alloc, s2]
  have E1 : Edg u1 u1.heap.size (some ⟨w.heap.size, 0, none⟩) knownG := by rw [h1]; exact (OwnE.lit (w := w) (T := 27) knownG (small_E _ (by decide)) (by decide) _ rfl).edg
  have E3 : Edg u3 u3.heap.size (some ⟨u2.heap.size, 0, none⟩) knownH := by rw [h3]; exact (OwnE.lit (w := u2) (T := 27) knownH (small_E _ (by decide)) (by decide) _ rfl).edg
  have b1 : Below w.heap.size w u1 := by rw [h1]; exact Below.new _ _
  have b2 : Below u1.heap.size u1 u2 := by rw [h2]; exact Below.new _ _
  have b3 : Below u2.heap.size u2 u3 := by rw [h3]; exact Below.new _ _
  have b4 : Below u3.heap.size u3 (knownW w) := by rw [hW]; exact Below.new _ _
  have P2 : u2.heap[w.heap.size + 1]? = some (.cells #[.int .i64 5, .slice (some ⟨w.heap.size, 0, none⟩) 6 6] 25 (0, 0)) := by rw [h2, ← s1]; exact heap_alloc_new ..
  have P4 : (knownW w).heap[w.heap.size + 1 + 1 + 1]? = some (.cells #[.int .i64 4, .slice (some ⟨w.heap.size + 1 + 1, 0, none⟩) 4 4] 25 (0, 0)) := by rw [hW, ← s3]; exact heap_alloc_new ..
  have F3 := E3.on b4
  rw [s2] at F3
  refine ⟨?_, P4, ((E1.on b2).on b3).on b4, F3, ?_⟩
  · rw [b4.block _ (by omega), b3.block _ (by omega)]; exact P2
  · exact ((b1.trans (b2.mono (by omega))).trans (b3.mono (by omega))).trans (b4.mono (by omega))
set_option maxRecDepth 100000 in
set_option maxHeartbeats 8000000 in
theorem known_walk (w : World) : Calls Try.prog 3 #[] w (BoolG w true) := by
  have AW : Hid (∀ W, Calls Try.prog 8 #[] W (BoolG W true)) := Lib.hid awake_any
  go_enter Try.func3, Try.ntmps3
  go_wp2_with fail
  (with_reducible refine (AW.out _).mono ?_); rintro e w2 ⟨rfl, b2⟩
  obtain ⟨W8, hW8⟩ : ∃ W8, W8 = badW w2 := ⟨_, rfl⟩
  obtain ⟨g, hg⟩ : ∃ g, g = w2.heap.size + 1 + 1 + 1 + 1 := ⟨_, rfl⟩
  have BL : Hid (∀ W, Below W8.heap.size W8 W → ∀ k, k < 6 → ∃ A, W.cell? ⟨g, k * 2, none⟩ = some (.int .i64 (badN k)) ∧ W.cell? ⟨g, k * 2 + 1, none⟩ = some (.slice A (badE k).length (badE k).length) ∧ Hid (Edg W W.heap.size A (badE k))) := Lib.hid fun W hW k hk => by
    obtain ⟨A, c1, c2, e⟩ := bad_laid w2 k hk
    rw [← hW8, ← hg] at c1 c2
    rw [← hW8] at e
    have hlt : g < W8.heap.size := by rw [hW8, hg]; unfold badW; simp
    exact ⟨A, (hW.cell (p := ⟨g, _, none⟩) hlt).trans c1, (hW.cell (p := ⟨g, _, none⟩) hlt).trans c2, Lib.hid (e.on hW)⟩
  have B8 : Hid (Below w.heap.size w W8) := Lib.hid (by rw [hW8]; exact b2.out.trans ((bad_below w2).mono b2.out.size))
  have hU := hW8
  unfold badW at hU
  clear b2
  go_wp2_with fail
  rw [← hU, ← hg]
  clear hU hW8 hg
  go_loopw [2] (fun iv wr => ∃ k : Nat, k ≤ 6 ∧ iv = .int .i64 k ∧ Hid (Below W8.heap.size W8 wr)) (fun iv _ => 6 - (intOf iv).toNat)
  case atStart => exact ⟨0, Nat.zero_le _, rfl, Lib.hid (Below.refl _ _)⟩
  case round =>
    obtain ⟨k, hk, rfl, HB⟩ := hrel
    by_cases hlt : k < 6
    · have hlt' : (k : Int) < 6 := by omega
      obtain ⟨A, c1, c2, E⟩ := BL.out _ HB.out k hlt
      obtain ⟨n, hn⟩ : ∃ n, n = badN k := ⟨_, rfl⟩
      obtain ⟨es, hes⟩ : ∃ es, es = badE k := ⟨_, rfl⟩
      obtain ⟨l, hll⟩ : ∃ l, l = es.length := ⟨_, rfl⟩
      have NO : Hid (Gr.goodV n es = false) := Lib.hid (by rw [hn, hes]; exact bad_no k hlt)
      have LE : Hid (es.length ≤ 2) := Lib.hid (by rw [hes]; exact bad_len k)
      rw [← hn] at c1
      rw [← hes, ← hll] at c2
      rw [← hes] at E
      have GD : Hid (∀ W, Below wr.heap.size wr W → Calls Try.prog 9 #[.agg #[.int .i64 n, .slice A l l]] W (BoolG W false)) := Lib.hid fun W hW => by
        have := good_any n A es l (by have := LE.out; omega) W (E.out.on hW)
        rwa [← hll, NO.out] at this
      have CY : Hid (∀ W, Below wr.heap.size wr W → Calls Try.prog 10 #[.agg #[.int .i64 n, .slice A l l]] W (ListG W [])) := Lib.hid fun W hW => by
        have := cycle_any n A es l (by have := LE.out; omega) W (E.out.on hW)
        rwa [← hll, show Gr.cycleI n es = [] by unfold Gr.cycleI; rw [NO.out]; rfl] at this
      have AH : Hid (∀ W, Below wr.heap.size wr W → Calls Try.prog 11 #[.agg #[.int .i64 n, .slice A l l], .int .i64 1] W (ListG W [])) := Lib.hid fun W hW => by
        have := ahead_any n A es l 1 (by have := LE.out; omega) W (E.out.on hW)
        rwa [← hll, show Gr.aheadI n es 1 = [] by unfold Gr.aheadI; rw [NO.out]; rfl] at this
      have RE : Hid (∀ W, Below wr.heap.size wr W → Calls Try.prog 12 #[.agg #[.int .i64 n, .slice A l l], .int .i64 0] W (ListG W [])) := Lib.hid fun W hW => by
        have := reach_any n A es l 0 ⟨by decide, by decide⟩ (by have := LE.out; omega) W (E.out.on hW)
        rwa [← hll, show Gr.reachI n es 0 = [] by unfold Gr.reachI; rw [NO.out]; rfl] at this
      have CC : Hid (∀ W, Below wr.heap.size wr W → W.cell? ⟨g, k * 2, none⟩ = some (.int .i64 n) ∧ W.cell? ⟨g, k * 2 + 1, none⟩ = some (.slice A l l)) := Lib.hid fun W hW => by
        have hb0 : Below wr.heap.size wr W := hW
        have hg : g < wr.heap.size := lt_of_at c1
        rw [hb0.cell (p := ⟨g, k * 2, none⟩) hg, hb0.cell (p := ⟨g, k * 2 + 1, none⟩) hg]
        exact ⟨c1, c2⟩
      clear hn hes hll NO LE E
      have FB : Hid (Below wr.heap.size wr wr) := Lib.hid (Below.refl _ _)
      go_wp2_with fail
      (with_reducible refine (GD.out _ FB.out).mono ?_); rintro e w3 ⟨rfl, b3⟩
      have FB : Hid (Below wr.heap.size wr w3) := Lib.hid (FB.out.trans (b3.out.mono FB.out.size))
      obtain ⟨c1, c2⟩ := CC.out _ FB.out
      clear b3
      go_wp2_with fail
      (with_reducible refine (CY.out _ FB.out).mono ?_); rintro e w4 ⟨Q4, q4, rfl, -, b4⟩
      have FB : Hid (Below wr.heap.size wr w4) := Lib.hid (FB.out.trans (b4.out.mono FB.out.size))
      obtain ⟨c1, c2⟩ := CC.out _ FB.out
      clear b4
      go_wp2_with fail
      (with_reducible refine (AH.out _ FB.out).mono ?_); rintro e w5 ⟨Q5, q5, rfl, -, b5⟩
      have FB : Hid (Below wr.heap.size wr w5) := Lib.hid (FB.out.trans (b5.out.mono FB.out.size))
      obtain ⟨c1, c2⟩ := CC.out _ FB.out
      clear b5
      go_wp2_with fail
      (with_reducible refine (RE.out _ FB.out).mono ?_); rintro e w6 ⟨Q6, q6, rfl, -, b6⟩
      have FB : Hid (Below wr.heap.size wr w6) := Lib.hid (FB.out.trans (b6.out.mono FB.out.size))
      go_wp2
      go_roundw
      case rel => exact ⟨k + 1, by omega, by go_num, Lib.hid (HB.out.trans (FB.out.mono HB.out.size))⟩
      case measure => simp [intOf]; omega
    · obtain rfl : 6 = k := by omega
      obtain ⟨W9, hW9⟩ : ∃ W9, W9 = knownW wr := ⟨_, rfl⟩
      obtain ⟨gA, hgA⟩ : ∃ gA : Option Addr, gA = some ⟨wr.heap.size, 0, none⟩ := ⟨_, rfl⟩
      obtain ⟨gH, hgH⟩ : ∃ gH : Option Addr, gH = some ⟨wr.heap.size + 1 + 1, 0, none⟩ := ⟨_, rfl⟩
      obtain ⟨X4, hX4⟩ : ∃ X4, X4 = wr.heap.size + 1 + 1 + 1 := ⟨_, rfl⟩
      obtain ⟨X3, hX3⟩ : ∃ X3, X3 = wr.heap.size + 1 := ⟨_, rfl⟩
      obtain ⟨p3, p4, e3, e4, b9⟩ := known_laid wr
      have hU := hW9
      unfold knownW at hU
      rw [← hW9, ← hgA, ← hX3] at p3
      rw [← hW9, ← hgH, ← hX4] at p4
      rw [← hW9, ← hgA] at e3
      rw [← hW9, ← hgH] at e4
      rw [← hW9] at b9
      have P3 := Lib.hid p3
      have P4 := Lib.hid p4
      have E3 := Lib.hid e3
      have E4 := Lib.hid e4
      have B9 : Hid (Below w.heap.size w W9) := Lib.hid ((B8.out.trans (HB.out.mono B8.out.size)).trans (b9.mono (B8.out.trans (HB.out.mono B8.out.size)).size))
      have SH : Hid (Calls Try.prog 13 #[.agg #[.int .i64 5, .slice gA 6 6]] W9 (GrPost W9 5 [(4, 3), (3, 4), (0, 1), (1, 2), (2, 0), (2, 3)])) := Lib.hid (by
        have := short_any 5 gA knownG 6 (by decide) W9 E3.out
        rwa [k_short] at this)
      clear p3 p4 e3 e4 b9 hW9 BL
      go_wp2_with fail
      rw [← hgA, ← hgH, ← hX4, ← hX3] at *
      rw [← hU]
      clear hU hgA hgH hX3 hX4
      (with_reducible refine SH.out.mono ?_); rintro e w10 ⟨A5, c5, rfl, o5, b5⟩
      obtain ⟨X5, hX5⟩ : ∃ X5, X5 = w10.heap.size := ⟨_, rfl⟩
      obtain ⟨W, hW⟩ : ∃ W, W = w10.alloc (.cells #[.int .i64 5, .slice A5 6 c5] 25) := ⟨_, rfl⟩
      have B10 : Hid (Below W9.heap.size W9 w10) := b5
      have C10 : Hid (Below W9.heap.size W9 W) := Lib.hid (by rw [hW]; exact B10.out.alloc B10.out.size _)
      have P5 : Hid (W.heap[X5]? = some (.cells #[.int .i64 5, .slice A5 6 c5] 25 (0, 0))) := Lib.hid (by rw [hW, hX5]; exact heap_alloc_new ..)
      have BW : Hid (Below w.heap.size w W) := Lib.hid (B9.out.trans (C10.out.mono B9.out.size))
      have SM : Hid (∀ w', Below W.heap.size W w' → (w'.cell? ⟨X3, 0, none⟩ = some (.int .i64 5) ∧ w'.cell? ⟨X3, 1, none⟩ = some (.slice gA 6 6)) ∧ (w'.cell? ⟨X4, 0, none⟩ = some (.int .i64 4) ∧ w'.cell? ⟨X4, 1, none⟩ = some (.slice gH 4 4)) ∧ w'.cell? ⟨X5, 0, none⟩ = some (.int .i64 5) ∧ w'.cell? ⟨X5, 1, none⟩ = some (.slice A5 6 c5)) := Lib.hid fun w' hw => by
        have hb : Below W9.heap.size W9 w' := C10.out.trans (hw.mono C10.out.size)
        exact ⟨(obG ((hb.block _ (lt_of_block P3.out)).trans P3.out)).1, (obG ((hb.block _ (lt_of_block P4.out)).trans P4.out)).1, (obG ((hw.block _ (lt_of_block P5.out)).trans P5.out)).1⟩
      have EG : Hid (∀ w', Below W.heap.size W w' → Edg w' w'.heap.size gA knownG) := Lib.hid fun w' hw => E3.out.on (C10.out.trans (hw.mono C10.out.size))
      have EH : Hid (∀ w', Below W.heap.size W w' → Edg w' w'.heap.size gH knownH) := Lib.hid fun w' hw => E4.out.on (C10.out.trans (hw.mono C10.out.size))
      have TH : Hid (∀ W, Calls Try.prog 16 #[] W (RefPost W 3 threeE)) := Lib.hid three_any
      have GD : Hid (∀ w', Below W.heap.size W w' → Calls Try.prog 9 #[.agg #[.int .i64 0, .slice none 0 0]] w' (BoolG w' true)) := Lib.hid fun w' _ => by
        have := good_any 0 none [] 0 (by decide) w' Edg.nil_
        rwa [k_good0] at this
      have K1 : Hid (∀ w', Below W.heap.size W w' → Calls Try.prog 10 #[.agg #[.int .i64 5, .slice gA 6 6]] w' (ListG w' [3, 4])) := Lib.hid fun w' hw => by
        have := cycle_any 5 gA knownG 6 (by decide) w' (EG.out _ hw)
        rwa [k_cyc] at this
      have K2 : Hid (∀ w', Below W.heap.size W w' → Calls Try.prog 10 #[.agg #[.int .i64 4, .slice gH 4 4]] w' (ListG w' [0, 2])) := Lib.hid fun w' hw => by
        have := cycle_any 4 gH knownH 4 (by decide) w' (EH.out _ hw)
        rwa [k_cycH] at this
      have K3 : Hid (∀ w', Below W.heap.size W w' → Calls Try.prog 11 #[.agg #[.int .i64 5, .slice gA 6 6], .int .i64 3] w' (ListG w' [2, 4])) := Lib.hid fun w' hw => by
        have := ahead_any 5 gA knownG 6 3 (by decide) w' (EG.out _ hw)
        rwa [k_ahead] at this
      have K4 : Hid (∀ w', Below W.heap.size W w' → Calls Try.prog 15 #[.agg #[.int .i64 5, .slice gA 6 6], .int .i64 2] w' (ListG w' [0, 3])) := Lib.hid fun w' hw => by
        have := behind_any 5 gA knownG 6 2 (by decide) w' (EG.out _ hw)
        rwa [k_behind] at this
      have K5 : Hid (∀ w', Below W.heap.size W w' → Calls Try.prog 12 #[.agg #[.int .i64 5, .slice gA 6 6], .int .i64 0] w' (ListG w' [0, 1, 2, 3, 4])) := Lib.hid fun w' hw => by
        have := reach_any 5 gA knownG 6 0 ⟨by decide, by decide⟩ (by decide) w' (EG.out _ hw)
        rwa [k_reach0] at this
      have K6 : Hid (∀ w', Below W.heap.size W w' → Calls Try.prog 12 #[.agg #[.int .i64 5, .slice gA 6 6], .int .i64 3] w' (ListG w' [3, 4])) := Lib.hid fun w' hw => by
        have := reach_any 5 gA knownG 6 3 ⟨by decide, by decide⟩ (by decide) w' (EG.out _ hw)
        rwa [k_reach3] at this
      have K7 : Hid (∀ w', Below W.heap.size W w' → Calls Try.prog 11 #[.agg #[.int .i64 5, .slice gA 6 6], .int .i64 5] w' (ListG w' [])) := Lib.hid fun w' hw => by
        have := ahead_any 5 gA knownG 6 5 (by decide) w' (EG.out _ hw)
        rwa [k_ahead5] at this
      have FB : Hid (Below W.heap.size W W) := Lib.hid (Below.refl _ _)
      clear b5 B10 SH o5 P3 P4 E3 E4 B9 B8 HB C10 P5
      go_wp2_with fail
      rw [← hW, ← hX5]
      clear hW hX5
      (with_reducible refine (GD.out _ FB.out).mono ?_); rintro e z0 ⟨rfl, b0⟩
      have FB : Hid (Below W.heap.size W z0) := Lib.hid (FB.out.trans (b0.out.mono FB.out.size))
      obtain ⟨⟨y0, y1⟩, ⟨y2, y3⟩, y4, y5⟩ := SM.out _ FB.out
      clear b0
      go_wp2_with fail
      (with_reducible refine (K1.out _ FB.out).mono ?_); rintro e z1 ⟨Q, q, rfl, o, b1⟩
      clear y0 y1 y2 y3 y4 y5
      have FB : Hid (Below W.heap.size W z1) := Lib.hid (FB.out.trans (b1.out.mono FB.out.size))
      obtain ⟨⟨y0, y1⟩, ⟨y2, y3⟩, y4, y5⟩ := SM.out _ FB.out
      clear y0 y1 y2 y3 y4 y5
      obtain ⟨u, hu⟩ : ∃ u, u = z1.alloc (.cells #[.int .i64 3, .int .i64 4] 3) := ⟨_, rfl⟩
      have bu : Below z1.heap.size z1 u := by rw [hu]; exact Below.new _ _
      have ZQ : Hid (Zs u u.heap.size Q [3, 4]) := Lib.hid (o.out.zs.on bu)
      have ZL : Hid (Zs u u.heap.size (some ⟨z1.heap.size, 0, none⟩) [3, 4]) := Lib.hid (by rw [hu]; exact Zs.lit (w := z1) [3, 4] (small_Z _ (by decide)) #[.int .i64 3, .int .i64 4] (0, 0) rfl)
      have IN : Hid (Calls Try.prog 14 #[.slice Q 2 q, .slice (some ⟨z1.heap.size, 0, none⟩) 2 2] u (BoolG u true)) := Lib.hid (by
        have := ints_any Q [3, 4] q (some ⟨z1.heap.size, 0, none⟩) [3, 4] 2 (by decide) (by decide) u ZQ.out ZL.out
        rwa [sameI_refl] at this)
      have FB : Hid (Below W.heap.size W u) := Lib.hid (FB.out.trans (bu.mono FB.out.size))
      clear o bu ZQ ZL b1
      go_wp2_with fail
      rw [← hu]
      clear hu
      (with_reducible refine IN.out.mono ?_); rintro e z2 ⟨rfl, b2⟩
      clear IN
      have FB : Hid (Below W.heap.size W z2) := Lib.hid (FB.out.trans (b2.out.mono FB.out.size))
      obtain ⟨⟨y0, y1⟩, ⟨y2, y3⟩, y4, y5⟩ := SM.out _ FB.out
      clear b2
      go_wp2_with fail
      (with_reducible refine (K2.out _ FB.out).mono ?_); rintro e z3 ⟨Q, q, rfl, o, b3⟩
      clear y0 y1 y2 y3 y4 y5
      have FB : Hid (Below W.heap.size W z3) := Lib.hid (FB.out.trans (b3.out.mono FB.out.size))
      obtain ⟨⟨y0, y1⟩, ⟨y2, y3⟩, y4, y5⟩ := SM.out _ FB.out
      clear y0 y1 y2 y3 y4 y5
      obtain ⟨u, hu⟩ : ∃ u, u = z3.alloc (.cells #[.int .i64 0, .int .i64 2] 3) := ⟨_, rfl⟩
      have bu : Below z3.heap.size z3 u := by rw [hu]; exact Below.new _ _
      have ZQ : Hid (Zs u u.heap.size Q [0, 2]) := Lib.hid (o.out.zs.on bu)
      have ZL : Hid (Zs u u.heap.size (some ⟨z3.heap.size, 0, none⟩) [0, 2]) := Lib.hid (by rw [hu]; exact Zs.lit (w := z3) [0, 2] (small_Z _ (by decide)) #[.int .i64 0, .int .i64 2] (0, 0) rfl)
      have IN : Hid (Calls Try.prog 14 #[.slice Q 2 q, .slice (some ⟨z3.heap.size, 0, none⟩) 2 2] u (BoolG u true)) := Lib.hid (by
        have := ints_any Q [0, 2] q (some ⟨z3.heap.size, 0, none⟩) [0, 2] 2 (by decide) (by decide) u ZQ.out ZL.out
        rwa [sameI_refl] at this)
      have FB : Hid (Below W.heap.size W u) := Lib.hid (FB.out.trans (bu.mono FB.out.size))
      clear o bu ZQ ZL b3
      go_wp2_with fail
      rw [← hu]
      clear hu
      (with_reducible refine IN.out.mono ?_); rintro e z4 ⟨rfl, b4⟩
      clear IN
      have FB : Hid (Below W.heap.size W z4) := Lib.hid (FB.out.trans (b4.out.mono FB.out.size))
      obtain ⟨⟨y0, y1⟩, ⟨y2, y3⟩, y4, y5⟩ := SM.out _ FB.out
      clear b4
      go_wp2_with fail
      (with_reducible refine (K3.out _ FB.out).mono ?_); rintro e z5 ⟨Q, q, rfl, o, b5⟩
      clear y0 y1 y2 y3 y4 y5
      have FB : Hid (Below W.heap.size W z5) := Lib.hid (FB.out.trans (b5.out.mono FB.out.size))
      obtain ⟨⟨y0, y1⟩, ⟨y2, y3⟩, y4, y5⟩ := SM.out _ FB.out
      clear y0 y1 y2 y3 y4 y5
      obtain ⟨u, hu⟩ : ∃ u, u = z5.alloc (.cells #[.int .i64 2, .int .i64 4] 3) := ⟨_, rfl⟩
      have bu : Below z5.heap.size z5 u := by rw [hu]; exact Below.new _ _
      have ZQ : Hid (Zs u u.heap.size Q [2, 4]) := Lib.hid (o.out.zs.on bu)
      have ZL : Hid (Zs u u.heap.size (some ⟨z5.heap.size, 0, none⟩) [2, 4]) := Lib.hid (by rw [hu]; exact Zs.lit (w := z5) [2, 4] (small_Z _ (by decide)) #[.int .i64 2, .int .i64 4] (0, 0) rfl)
      have IN : Hid (Calls Try.prog 14 #[.slice Q 2 q, .slice (some ⟨z5.heap.size, 0, none⟩) 2 2] u (BoolG u true)) := Lib.hid (by
        have := ints_any Q [2, 4] q (some ⟨z5.heap.size, 0, none⟩) [2, 4] 2 (by decide) (by decide) u ZQ.out ZL.out
        rwa [sameI_refl] at this)
      have FB : Hid (Below W.heap.size W u) := Lib.hid (FB.out.trans (bu.mono FB.out.size))
      clear o bu ZQ ZL b5
      go_wp2_with fail
      rw [← hu]
      clear hu
      (with_reducible refine IN.out.mono ?_); rintro e z6 ⟨rfl, b6⟩
      clear IN
      have FB : Hid (Below W.heap.size W z6) := Lib.hid (FB.out.trans (b6.out.mono FB.out.size))
      obtain ⟨⟨y0, y1⟩, ⟨y2, y3⟩, y4, y5⟩ := SM.out _ FB.out
      clear b6
      go_wp2_with fail
      (with_reducible refine (K4.out _ FB.out).mono ?_); rintro e z7 ⟨Q, q, rfl, o, b7⟩
      clear y0 y1 y2 y3 y4 y5
      have FB : Hid (Below W.heap.size W z7) := Lib.hid (FB.out.trans (b7.out.mono FB.out.size))
      obtain ⟨⟨y0, y1⟩, ⟨y2, y3⟩, y4, y5⟩ := SM.out _ FB.out
      clear y0 y1 y2 y3 y4 y5
      obtain ⟨u, hu⟩ : ∃ u, u = z7.alloc (.cells #[.int .i64 0, .int .i64 3] 3) := ⟨_, rfl⟩
      have bu : Below z7.heap.size z7 u := by rw [hu]; exact Below.new _ _
      have ZQ : Hid (Zs u u.heap.size Q [0, 3]) := Lib.hid (o.out.zs.on bu)
      have ZL : Hid (Zs u u.heap.size (some ⟨z7.heap.size, 0, none⟩) [0, 3]) := Lib.hid (by rw [hu]; exact Zs.lit (w := z7) [0, 3] (small_Z _ (by decide)) #[.int .i64 0, .int .i64 3] (0, 0) rfl)
      have IN : Hid (Calls Try.prog 14 #[.slice Q 2 q, .slice (some ⟨z7.heap.size, 0, none⟩) 2 2] u (BoolG u true)) := Lib.hid (by
        have := ints_any Q [0, 3] q (some ⟨z7.heap.size, 0, none⟩) [0, 3] 2 (by decide) (by decide) u ZQ.out ZL.out
        rwa [sameI_refl] at this)
      have FB : Hid (Below W.heap.size W u) := Lib.hid (FB.out.trans (bu.mono FB.out.size))
      clear o bu ZQ ZL b7
      go_wp2_with fail
      rw [← hu]
      clear hu
      (with_reducible refine IN.out.mono ?_); rintro e z8 ⟨rfl, b8⟩
      clear IN
      have FB : Hid (Below W.heap.size W z8) := Lib.hid (FB.out.trans (b8.out.mono FB.out.size))
      obtain ⟨⟨y0, y1⟩, ⟨y2, y3⟩, y4, y5⟩ := SM.out _ FB.out
      clear b8
      go_wp2_with fail
      (with_reducible refine (K5.out _ FB.out).mono ?_); rintro e z9 ⟨Q, q, rfl, o, b9⟩
      clear y0 y1 y2 y3 y4 y5
      have FB : Hid (Below W.heap.size W z9) := Lib.hid (FB.out.trans (b9.out.mono FB.out.size))
      obtain ⟨⟨y0, y1⟩, ⟨y2, y3⟩, y4, y5⟩ := SM.out _ FB.out
      clear y0 y1 y2 y3 y4 y5
      obtain ⟨u, hu⟩ : ∃ u, u = z9.alloc (.cells #[.int .i64 0, .int .i64 1, .int .i64 2, .int .i64 3, .int .i64 4] 3) := ⟨_, rfl⟩
      have bu : Below z9.heap.size z9 u := by rw [hu]; exact Below.new _ _
      have ZQ : Hid (Zs u u.heap.size Q [0, 1, 2, 3, 4]) := Lib.hid (o.out.zs.on bu)
      have ZL : Hid (Zs u u.heap.size (some ⟨z9.heap.size, 0, none⟩) [0, 1, 2, 3, 4]) := Lib.hid (by rw [hu]; exact Zs.lit (w := z9) [0, 1, 2, 3, 4] (small_Z _ (by decide)) #[.int .i64 0, .int .i64 1, .int .i64 2, .int .i64 3, .int .i64 4] (0, 0) rfl)
      have IN : Hid (Calls Try.prog 14 #[.slice Q 5 q, .slice (some ⟨z9.heap.size, 0, none⟩) 5 5] u (BoolG u true)) := Lib.hid (by
        have := ints_any Q [0, 1, 2, 3, 4] q (some ⟨z9.heap.size, 0, none⟩) [0, 1, 2, 3, 4] 5 (by decide) (by decide) u ZQ.out ZL.out
        rwa [sameI_refl] at this)
      have FB : Hid (Below W.heap.size W u) := Lib.hid (FB.out.trans (bu.mono FB.out.size))
      clear o bu ZQ ZL b9
      go_wp2_with fail
      rw [← hu]
      clear hu
      (with_reducible refine IN.out.mono ?_); rintro e z10 ⟨rfl, b10⟩
      clear IN
      have FB : Hid (Below W.heap.size W z10) := Lib.hid (FB.out.trans (b10.out.mono FB.out.size))
      obtain ⟨⟨y0, y1⟩, ⟨y2, y3⟩, y4, y5⟩ := SM.out _ FB.out
      clear b10
      go_wp2_with fail
      (with_reducible refine (K6.out _ FB.out).mono ?_); rintro e z11 ⟨Q, q, rfl, o, b11⟩
      clear y0 y1 y2 y3 y4 y5
      have FB : Hid (Below W.heap.size W z11) := Lib.hid (FB.out.trans (b11.out.mono FB.out.size))
      obtain ⟨⟨y0, y1⟩, ⟨y2, y3⟩, y4, y5⟩ := SM.out _ FB.out
      clear y0 y1 y2 y3 y4 y5
      obtain ⟨u, hu⟩ : ∃ u, u = z11.alloc (.cells #[.int .i64 3, .int .i64 4] 3) := ⟨_, rfl⟩
      have bu : Below z11.heap.size z11 u := by rw [hu]; exact Below.new _ _
      have ZQ : Hid (Zs u u.heap.size Q [3, 4]) := Lib.hid (o.out.zs.on bu)
      have ZL : Hid (Zs u u.heap.size (some ⟨z11.heap.size, 0, none⟩) [3, 4]) := Lib.hid (by rw [hu]; exact Zs.lit (w := z11) [3, 4] (small_Z _ (by decide)) #[.int .i64 3, .int .i64 4] (0, 0) rfl)
      have IN : Hid (Calls Try.prog 14 #[.slice Q 2 q, .slice (some ⟨z11.heap.size, 0, none⟩) 2 2] u (BoolG u true)) := Lib.hid (by
        have := ints_any Q [3, 4] q (some ⟨z11.heap.size, 0, none⟩) [3, 4] 2 (by decide) (by decide) u ZQ.out ZL.out
        rwa [sameI_refl] at this)
      have FB : Hid (Below W.heap.size W u) := Lib.hid (FB.out.trans (bu.mono FB.out.size))
      clear o bu ZQ ZL b11
      go_wp2_with fail
      rw [← hu]
      clear hu
      (with_reducible refine IN.out.mono ?_); rintro e z12 ⟨rfl, b12⟩
      clear IN
      have FB : Hid (Below W.heap.size W z12) := Lib.hid (FB.out.trans (b12.out.mono FB.out.size))
      obtain ⟨⟨y0, y1⟩, ⟨y2, y3⟩, y4, y5⟩ := SM.out _ FB.out
      clear b12
      go_wp2_with fail
      (with_reducible refine (K7.out _ FB.out).mono ?_); rintro e z13 ⟨Q, q, rfl, -, b13⟩
      clear y0 y1 y2 y3 y4 y5
      have FB : Hid (Below W.heap.size W z13) := Lib.hid (FB.out.trans (b13.out.mono FB.out.size))
      obtain ⟨⟨y0, y1⟩, ⟨y2, y3⟩, y4, y5⟩ := SM.out _ FB.out
      clear b13
      go_wp2_with fail
      (with_reducible refine (TH.out _).mono ?_); rintro e z14 ⟨Q, q, rfl, et, b14⟩
      clear y0 y1 y2 y3 y4 y5
      have FB : Hid (Below W.heap.size W z14) := Lib.hid (FB.out.trans (b14.out.mono FB.out.size))
      obtain ⟨⟨y0, y1⟩, ⟨y2, y3⟩, y4, y5⟩ := SM.out _ FB.out
      clear b14
      have K8 : Hid (Calls Try.prog 10 #[.agg #[.int .i64 3, .slice Q threeE.length q]] z14 (ListG z14 [])) := Lib.hid (by
        have := cycle_any 3 Q threeE q (by decide) z14 et.out
        rwa [k_cyc3] at this)
      clear et
      go_wp2_with fail
      (with_reducible refine K8.out.mono ?_); rintro e z15 ⟨Q', q', rfl, -, b15⟩
      clear K8
      clear y0 y1 y2 y3 y4 y5
      have FB : Hid (Below W.heap.size W z15) := Lib.hid (FB.out.trans (b15.out.mono FB.out.size))
      obtain ⟨⟨y0, y1⟩, ⟨y2, y3⟩, y4, y5⟩ := SM.out _ FB.out
      clear b15
      go_wp2
      go_ret
      exact ⟨rfl, Lib.hid (BW.out.trans (FB.out.mono BW.out.size))⟩
end Go.Proofs.Ytiapacbbfgihdaa
