/-
  The laws' own: three, awake.
-/
import Derived.Test.YtiapacbbfgihdaaGrAwake
import Derived.Test.YtiapacbbfgihdaaGrReach
namespace Go.Proofs.Ytiapacbbfgihdaa
open Go.RowKit
def threeE : List (Int × Int) := [(0, 1), (1, 2), (0, 2)]
theorem three_good : Gr.goodV 3 threeE = true := by decide +kernel
theorem three_short : Gr.shortI 3 threeE = [(0, 1), (1, 2)] := by decide +kernel
theorem three_reach : Gr.reachI 3 threeE 0 = [1, 2] := by decide +kernel
theorem small_E (es : List (Int × Int)) (h : (es.all fun e => decide (-100 ≤ e.1 ∧ e.1 ≤ 100 ∧ -100 ≤ e.2 ∧ e.2 ≤ 100)) = true) : ∀ e ∈ es, inE e := fun e he => by
  have := List.all_eq_true.1 h e he
  simp only [decide_eq_true_eq] at this
  exact ⟨⟨by omega, by omega⟩, ⟨by omega, by omega⟩⟩
theorem small_Z (zs : List Int) (h : (zs.all fun z => decide (-100 ≤ z ∧ z ≤ 100)) = true) : ∀ z ∈ zs, inI z := fun z hz => by
  have := List.all_eq_true.1 h z hz
  simp only [decide_eq_true_eq] at this
  exact ⟨by omega, by omega⟩
set_option maxHeartbeats 1000000 in
theorem three_any (w : World) : Calls Try.prog 16 #[] w (RefPost w 3 threeE) := by
  have O2 := OwnE.lit (w := w.alloc (.cells #[.int .i64 3, .slice (some ⟨w.heap.size + 1, 0, none⟩) 3 3] 25)) (T := 27) threeE (small_E _ (by decide)) (by decide) #[.int .i64 0, .int .i64 1, .int .i64 1, .int .i64 2, .int .i64 0, .int .i64 2] rfl
  rw [World.size_alloc] at O2
  have E2 := Lib.hid O2.edg
  have B2 : Hid (Below w.heap.size w ((w.alloc (.cells #[.int .i64 3, .slice (some ⟨w.heap.size + 1, 0, none⟩) 3 3] 25)).alloc (.cells #[.int .i64 0, .int .i64 1, .int .i64 1, .int .i64 2, .int .i64 0, .int .i64 2] 27))) := Lib.hid (((Below.refl _ _).alloc (Nat.le_refl _) _).alloc (by simp) _)
  clear O2
  go_enter Try.func16, Try.ntmps16
  go_wp2_with fail
  exact bodyPost_ret (v := .agg #[.int .i64 3, .slice (some ⟨w.heap.size + 1, 0, none⟩) 3 3]) (by simp [results, Try.results16, go_sem]) rfl ⟨_, _, rfl, E2, B2⟩
set_option maxHeartbeats 4000000 in
theorem awake_any (w : World) : Calls Try.prog 8 #[] w (BoolG w true) := by
  have TH : Hid (∀ W, Calls Try.prog 16 #[] W (RefPost W 3 threeE)) := Lib.hid three_any
  go_enter Try.func8, Try.ntmps8
  go_wp2_with fail
  (with_reducible refine (TH.out _).mono ?_); rintro e w1 ⟨A1, c1, rfl, e1, b1⟩
  have SH : Hid (Calls Try.prog 13 #[.agg #[.int .i64 3, .slice A1 threeE.length c1]] w1 (GrPost w1 3 [(0, 1), (1, 2)])) := Lib.hid (by have := short_any 3 A1 threeE c1 (by decide) w1 e1.out; rwa [three_short] at this)
  go_wp2_with fail
  (with_reducible refine SH.out.mono ?_); rintro e w2 ⟨A2, c2, rfl, o2, b2⟩
  have B2 : Hid (Below w.heap.size w w2) := Lib.hid (b1.out.trans (b2.out.mono b1.out.size))
  have E2 : Hid (Edg w2 w2.heap.size A2 [(0, 1), (1, 2)]) := Lib.hid o2.out.edg
  clear e1 b1 o2 b2 SH
  obtain ⟨W3, hW3⟩ : ∃ W3, W3 = w2.alloc (.cells #[.int .i64 3, .slice A2 2 c2] 25) := ⟨_, rfl⟩
  have B3 : Hid (Below w.heap.size w W3) := Lib.hid (by rw [hW3]; exact B2.out.alloc B2.out.size _)
  have P3 : Hid (W3.heap[w2.heap.size]? = some (.cells #[.int .i64 3, .slice A2 2 c2] 25 (0, 0))) := Lib.hid (by rw [hW3]; exact heap_alloc_new ..)
  have E3 : Hid (Edg W3 W3.heap.size A2 [(0, 1), (1, 2)]) := Lib.hid (by rw [hW3]; exact E2.out.on ((Below.refl _ _).alloc (Nat.le_refl _) _))
  go_wp2_with fail
  rw [← hW3]
  clear hW3
  (with_reducible refine (TH.out _).mono ?_); rintro e w4 ⟨A4, c4, rfl, e4, b4⟩
  have GD : Hid (Calls Try.prog 9 #[.agg #[.int .i64 3, .slice A4 threeE.length c4]] w4 (BoolG w4 true)) := Lib.hid (by have := good_any 3 A4 threeE c4 (by decide) w4 e4.out; rwa [three_good] at this)
  go_wp2_with fail
  (with_reducible refine GD.out.mono ?_); rintro e w5 ⟨rfl, b5⟩
  have BB5 : Hid (Below W3.heap.size W3 w5) := Lib.hid (b4.out.trans (b5.out.mono b4.out.size))
  have B5 : Hid (Below w.heap.size w w5) := Lib.hid (B3.out.trans (BB5.out.mono B3.out.size))
  have P5 : Hid (w5.heap[w2.heap.size]? = some (.cells #[.int .i64 3, .slice A2 2 c2] 25 (0, 0))) := Lib.hid ((BB5.out.block _ (lt_of_block P3.out)).trans P3.out)
  have E5 : Hid (Edg w5 w5.heap.size A2 [(0, 1), (1, 2)]) := Lib.hid (E3.out.on BB5.out)
  obtain ⟨⟨y0, y1⟩, -⟩ := obG P5.out
  clear e4 b4 b5 GD
  have EW : Hid (Edg (w5.alloc (.cells #[.int .i64 0, .int .i64 1, .int .i64 1, .int .i64 2] 26)) (w5.alloc (.cells #[.int .i64 0, .int .i64 1, .int .i64 1, .int .i64 2] 26)).heap.size A2 [(0, 1), (1, 2)]) := Lib.hid (E5.out.on ((Below.refl _ _).alloc (Nat.le_refl _) _))
  have EL := Lib.hid (OwnE.lit (w := w5) (T := 26) [(0, 1), (1, 2)] (small_E _ (by decide)) (by decide) #[.int .i64 0, .int .i64 1, .int .i64 1, .int .i64 2] rfl).edg
  have ED : Hid (Calls Try.prog 24 #[.slice A2 2 c2, .slice (some ⟨w5.heap.size, 0, none⟩) 2 2] (w5.alloc (.cells #[.int .i64 0, .int .i64 1, .int .i64 1, .int .i64 2] 26)) (BoolG (w5.alloc (.cells #[.int .i64 0, .int .i64 1, .int .i64 1, .int .i64 2] 26)) true)) := Lib.hid (by
    have := edges_any A2 [(0, 1), (1, 2)] c2 (some ⟨w5.heap.size, 0, none⟩) [(0, 1), (1, 2)] 2 (by decide) (by decide) _ EW.out EL.out
    rwa [sameE_refl] at this)
  go_wp2_with fail
  (with_reducible refine ED.out.mono ?_); rintro e w6 ⟨rfl, b6⟩
  have B6 : Hid (Below w.heap.size w w6) := Lib.hid ((B5.out.alloc B5.out.size _).trans (b6.out.mono (B5.out.alloc B5.out.size _).size))
  clear b6 ED EW EL E5 P5 y0 y1
  go_wp2_with fail
  (with_reducible refine (TH.out _).mono ?_); rintro e w7 ⟨A7, c7, rfl, e7, b7⟩
  have RE : Hid (Calls Try.prog 12 #[.agg #[.int .i64 3, .slice A7 threeE.length c7], .int .i64 0] w7 (ListG w7 [1, 2])) := Lib.hid (by have := reach_any 3 A7 threeE c7 0 ⟨by decide, by decide⟩ (by decide) w7 e7.out; rwa [three_reach] at this)
  go_wp2_with fail
  (with_reducible refine RE.out.mono ?_); rintro e w8 ⟨A8, c8, rfl, o8, b8⟩
  have B8 : Hid (Below w.heap.size w w8) := Lib.hid ((B6.out.trans (b7.out.mono B6.out.size)).trans (b8.out.mono (Nat.le_trans B6.out.size b7.out.size)))
  have Z8 : Hid (Zs (w8.alloc (.cells #[.int .i64 1, .int .i64 2] 3)) (w8.alloc (.cells #[.int .i64 1, .int .i64 2] 3)).heap.size A8 [1, 2]) := Lib.hid (o8.out.zs.on ((Below.refl _ _).alloc (Nat.le_refl _) _))
  have ZL := Lib.hid (Zs.lit (w := w8) [1, 2] (small_Z _ (by decide)) #[.int .i64 1, .int .i64 2] (0, 0) rfl)
  have IN : Hid (Calls Try.prog 14 #[.slice A8 2 c8, .slice (some ⟨w8.heap.size, 0, none⟩) 2 2] (w8.alloc (.cells #[.int .i64 1, .int .i64 2] 3)) (BoolG (w8.alloc (.cells #[.int .i64 1, .int .i64 2] 3)) true)) := Lib.hid (by
    have := ints_any A8 [1, 2] c8 (some ⟨w8.heap.size, 0, none⟩) [1, 2] 2 (by decide) (by decide) _ Z8.out ZL.out
    rwa [sameI_refl] at this)
  clear e7 b7 o8 b8
  go_wp2_with fail
  (with_reducible refine IN.out.mono ?_); rintro e w9 ⟨rfl, b9⟩
  go_wp2
  go_ret
  exact ⟨rfl, Lib.hid ((B8.out.alloc B8.out.size _).trans (b9.out.mono (B8.out.alloc B8.out.size _).size))⟩
end Go.Proofs.Ytiapacbbfgihdaa
