/-
  The law TopoKnown walked.
-/
import Derived.Test.YtgeefkfolejbnaaToSays
namespace Go.Proofs.Ytgeefkfolejbnaa
open Go.RowKit
def knownC : List (Int × Int) := [(0, 1), (1, 0)]
def knownG : List (Int × Int) := [(0, 1), (0, 2), (1, 3), (2, 3), (0, 3)]
theorem k_c : To.okI 2 knownC = false := by decide +kernel
theorem k_lev : To.levelsI 4 knownG = some [0, 1, 1, 2] := by decide +kernel
theorem k_p1 : To.pathsI 4 knownG 0 3 = some 3 := by decide +kernel
theorem k_p2 : To.pathsI 4 knownG 1 2 = some 0 := by decide +kernel
theorem k_p3 : To.pathsI 4 knownG 2 2 = some 1 := by decide +kernel
theorem k_p4 : To.pathsI 4 knownG 0 4 = none := by decide +kernel
theorem k_o0 : To.orderI 0 [] = some [] := by decide +kernel
theorem k_l : To.longI 4 knownG = 3 := by decide +kernel
theorem k_l0 : To.longI 0 [] = 0 := by decide +kernel
theorem k_i1 : To.isI 4 knownG [0, 2, 1, 3] = true := by decide +kernel
theorem k_i2 : To.isI 4 knownG [0, 1, 3, 2] = false := by decide +kernel
theorem k_i3 : To.isI 4 knownG [0, 1, 2] = false := by decide +kernel
theorem k_i4 : To.isI 4 knownG [0, 0, 1, 3] = false := by decide +kernel
theorem k_i0 : To.isI 0 [] [] = true := by decide +kernel
def knownW (w : World) : World :=
  ((((w.alloc (.cells #[.int .i64 0, .int .i64 1, .int .i64 1, .int .i64 0] 24)).alloc (.cells #[.int .i64 2, .slice (some ⟨w.heap.size, 0, none⟩) 2 2] 27)).alloc (.cells #[.int .i64 0, .int .i64 1, .int .i64 0, .int .i64 2, .int .i64 1, .int .i64 3, .int .i64 2, .int .i64 3, .int .i64 0, .int .i64 3] 24)).alloc (.cells #[.int .i64 4, .slice (some ⟨w.heap.size + 1 + 1, 0, none⟩) 5 5] 27))
theorem known_laid (w : World) : (knownW w).heap[w.heap.size + 1]? = some (.cells #[.int .i64 2, .slice (some ⟨w.heap.size, 0, none⟩) 2 2] 27 (0, 0)) ∧ (knownW w).heap[w.heap.size + 1 + 1 + 1]? = some (.cells #[.int .i64 4, .slice (some ⟨w.heap.size + 1 + 1, 0, none⟩) 5 5] 27 (0, 0)) ∧
    Edg (knownW w) (knownW w).heap.size (some ⟨w.heap.size, 0, none⟩) knownC ∧ Edg (knownW w) (knownW w).heap.size (some ⟨w.heap.size + 1 + 1, 0, none⟩) knownG ∧ Below w.heap.size w (knownW w) := by
  obtain ⟨u1, h1⟩ : ∃ u, u = w.alloc (.cells #[.int .i64 0, .int .i64 1, .int .i64 1, .int .i64 0] 24) := ⟨_, rfl⟩
  obtain ⟨u2, h2⟩ : ∃ u, u = u1.alloc (.cells #[.int .i64 2, .slice (some ⟨w.heap.size, 0, none⟩) 2 2] 27) := ⟨_, rfl⟩
  obtain ⟨u3, h3⟩ : ∃ u, u = u2.alloc (.cells #[.int .i64 0, .int .i64 1, .int .i64 0, .int .i64 2, .int .i64 1, .int .i64 3, .int .i64 2, .int .i64 3, .int .i64 0, .int .i64 3] 24) := ⟨_, rfl⟩
  have hW : knownW w = u3.alloc (.cells #[.int .i64 4, .slice (some ⟨w.heap.size + 1 + 1, 0, none⟩) 5 5] 27) := by rw [h3, h2, h1]; rfl
  have s1 : u1.heap.size = w.heap.size + 1 := by rw [h1, World.size_alloc]
  have s2 : u2.heap.size = w.heap.size + 1 + 1 := by rw [h2, World.size_alloc, s1]
  have s3 : u3.heap.size = w.heap.size + 1 + 1 + 1 := by rw [h3, World.size_alloc, s2]
  have E1 : Edg u1 u1.heap.size (some ⟨w.heap.size, 0, none⟩) knownC := by rw [h1]; exact (OwnE.lit (w := w) (T := 24) knownC (small_E _ (by decide)) (by decide) _ rfl).edg
  have E3 : Edg u3 u3.heap.size (some ⟨u2.heap.size, 0, none⟩) knownG := by rw [h3]; exact (OwnE.lit (w := u2) (T := 24) knownG (small_E _ (by decide)) (by decide) _ rfl).edg
  have b1 : Below w.heap.size w u1 := by rw [h1]; exact Below.new _ _
  have b2 : Below u1.heap.size u1 u2 := by rw [h2]; exact Below.new _ _
  have b3 : Below u2.heap.size u2 u3 := by rw [h3]; exact Below.new _ _
  have b4 : Below u3.heap.size u3 (knownW w) := by rw [hW]; exact Below.new _ _
  have P2 : u2.heap[w.heap.size + 1]? = some (.cells #[.int .i64 2, .slice (some ⟨w.heap.size, 0, none⟩) 2 2] 27 (0, 0)) := by rw [h2, ← s1]; exact heap_alloc_new ..
  have P4 : (knownW w).heap[w.heap.size + 1 + 1 + 1]? = some (.cells #[.int .i64 4, .slice (some ⟨w.heap.size + 1 + 1, 0, none⟩) 5 5] 27 (0, 0)) := by rw [hW, ← s3]; exact heap_alloc_new ..
  have F3 := E3.on b4
  rw [s2] at F3
  refine ⟨?_, P4, ((E1.on b2).on b3).on b4, F3, ?_⟩
  · rw [b4.block _ (by omega), b3.block _ (by omega)]; exact P2
  · exact ((b1.trans (b2.mono (by omega))).trans (b3.mono (by omega))).trans (b4.mono (by omega))
set_option maxRecDepth 100000 in
set_option maxHeartbeats 8000000 in
theorem known_walk (w : World) : Calls Try.prog 3 #[] w (BoolG w true) := by
  have AW : Hid (∀ W, Calls Try.prog 8 #[] W (BoolG W true)) := Lib.hid awake_any
  go_enter Try.func3, Try.ntmps3
  go_wp2_with fail
  (with_reducible refine (AW.out _).mono ?_); rintro e w2 ⟨rfl, b2⟩
  obtain ⟨W9, hW9⟩ : ∃ W9, W9 = knownW w2 := ⟨_, rfl⟩
  obtain ⟨cA, hcA⟩ : ∃ cA : Option Addr, cA = some ⟨w2.heap.size, 0, none⟩ := ⟨_, rfl⟩
  obtain ⟨gA, hgA⟩ : ∃ gA : Option Addr, gA = some ⟨w2.heap.size + 1 + 1, 0, none⟩ := ⟨_, rfl⟩
  obtain ⟨X4, hX4⟩ : ∃ X4, X4 = w2.heap.size + 1 + 1 + 1 := ⟨_, rfl⟩
  obtain ⟨X3, hX3⟩ : ∃ X3, X3 = w2.heap.size + 1 := ⟨_, rfl⟩
  obtain ⟨p3, p4, e3, e4, b9⟩ := known_laid w2
  have hU := hW9
  unfold knownW at hU
  rw [← hW9, ← hcA, ← hX3] at p3
  rw [← hW9, ← hgA, ← hX4] at p4
  rw [← hW9, ← hcA] at e3
  rw [← hW9, ← hgA] at e4
  rw [← hW9] at b9
  have P3 := Lib.hid p3
  have P4 := Lib.hid p4
  have E3 := Lib.hid e3
  have E4 := Lib.hid e4
  have BW : Hid (Below w.heap.size w W9) := Lib.hid (b2.out.trans (b9.mono b2.out.size))
  have SM : Hid (∀ w', Below W9.heap.size W9 w' → (w'.cell? ⟨X3, 0, none⟩ = some (.int .i64 2) ∧ w'.cell? ⟨X3, 1, none⟩ = some (.slice cA 2 2)) ∧ (w'.cell? ⟨X4, 0, none⟩ = some (.int .i64 4) ∧ w'.cell? ⟨X4, 1, none⟩ = some (.slice gA 5 5))) := Lib.hid fun w' hw =>
    ⟨(obG ((hw.block _ (lt_of_block P3.out)).trans P3.out)).1, (obG ((hw.block _ (lt_of_block P4.out)).trans P4.out)).1⟩
  have EC : Hid (∀ w', Below W9.heap.size W9 w' → Edg w' w'.heap.size cA knownC) := Lib.hid fun w' hw => E3.out.on hw
  have EG : Hid (∀ w', Below W9.heap.size W9 w' → Edg w' w'.heap.size gA knownG) := Lib.hid fun w' hw => E4.out.on hw
  have K1 : Hid (∀ w', Below W9.heap.size W9 w' → Calls Try.prog 9 #[.agg #[.int .i64 2, .slice cA 2 2]] w' (OptN w')) := Lib.hid fun w' hw => by
    have := order_any 2 cA knownC 2 (by decide) w' (EC.out _ hw)
    exact this.mono fun e w'' h => by rw [To.orderI_no k_c] at h; exact h.no
  have K2 : Hid (∀ w', Below W9.heap.size W9 w' → Calls Try.prog 10 #[.agg #[.int .i64 2, .slice cA 2 2]] w' (OptN w')) := Lib.hid fun w' hw => by
    have := levels_any 2 cA knownC 2 (by decide) w' (EC.out _ hw)
    exact this.mono fun e w'' h => by rw [To.levelsI_no k_c] at h; exact h.no
  have K3 : Hid (∀ w', Below W9.heap.size W9 w' → Calls Try.prog 11 #[.agg #[.int .i64 2, .slice cA 2 2], .int .i64 0, .int .i64 1] w' (NumN w')) := Lib.hid fun w' hw => by
    have := paths_any 2 cA knownC 2 0 1 ⟨by decide, by decide⟩ ⟨by decide, by decide⟩ (by decide) w' (EC.out _ hw)
    exact this.mono fun e w'' h => by rw [To.pathsI_no k_c] at h; exact h.no
  have K4 : Hid (∀ w', Below W9.heap.size W9 w' → Calls Try.prog 10 #[.agg #[.int .i64 4, .slice gA 5 5]] w' (OptY w' [0, 1, 1, 2] 4)) := Lib.hid fun w' hw => by
    have := levels_any 4 gA knownG 5 (by decide) w' (EG.out _ hw)
    exact this.mono fun e w'' h => by rw [k_lev] at h; exact h.yes rfl
  have K5 : Hid (∀ w', Below W9.heap.size W9 w' → Calls Try.prog 11 #[.agg #[.int .i64 4, .slice gA 5 5], .int .i64 0, .int .i64 3] w' (NumY w' 3)) := Lib.hid fun w' hw => by
    have := paths_any 4 gA knownG 5 0 3 ⟨by decide, by decide⟩ ⟨by decide, by decide⟩ (by decide) w' (EG.out _ hw)
    exact this.mono fun e w'' h => by rw [k_p1] at h; exact h.yes
  have K6 : Hid (∀ w', Below W9.heap.size W9 w' → Calls Try.prog 11 #[.agg #[.int .i64 4, .slice gA 5 5], .int .i64 1, .int .i64 2] w' (NumY w' 0)) := Lib.hid fun w' hw => by
    have := paths_any 4 gA knownG 5 1 2 ⟨by decide, by decide⟩ ⟨by decide, by decide⟩ (by decide) w' (EG.out _ hw)
    exact this.mono fun e w'' h => by rw [k_p2] at h; exact h.yes
  have K7 : Hid (∀ w', Below W9.heap.size W9 w' → Calls Try.prog 11 #[.agg #[.int .i64 4, .slice gA 5 5], .int .i64 2, .int .i64 2] w' (NumY w' 1)) := Lib.hid fun w' hw => by
    have := paths_any 4 gA knownG 5 2 2 ⟨by decide, by decide⟩ ⟨by decide, by decide⟩ (by decide) w' (EG.out _ hw)
    exact this.mono fun e w'' h => by rw [k_p3] at h; exact h.yes
  have K8 : Hid (∀ w', Below W9.heap.size W9 w' → Calls Try.prog 11 #[.agg #[.int .i64 4, .slice gA 5 5], .int .i64 0, .int .i64 4] w' (NumN w')) := Lib.hid fun w' hw => by
    have := paths_any 4 gA knownG 5 0 4 ⟨by decide, by decide⟩ ⟨by decide, by decide⟩ (by decide) w' (EG.out _ hw)
    exact this.mono fun e w'' h => by rw [k_p4] at h; exact h.no
  have K9 : Hid (∀ w', Below W9.heap.size W9 w' → Calls Try.prog 9 #[.agg #[.int .i64 0, .slice none 0 0]] w' (OptY w' [] 0)) := Lib.hid fun w' hw => by
    have := order_any 0 none [] 0 (by decide) w' Edg.nil_
    exact this.mono fun e w'' h => by rw [k_o0] at h; exact h.yes rfl
  have L1 : Hid (∀ w', Below W9.heap.size W9 w' → Calls Try.prog 13 #[.agg #[.int .i64 4, .slice gA 5 5]] w' (IntG w' 3)) := Lib.hid fun w' hw => by
    have := long_any 4 gA knownG 5 (by decide) w' (EG.out _ hw)
    rwa [k_l] at this
  have L2 : Hid (∀ w', Below W9.heap.size W9 w' → Calls Try.prog 13 #[.agg #[.int .i64 0, .slice none 0 0]] w' (IntG w' 0)) := Lib.hid fun w' hw => by
    have := long_any 0 none [] 0 (by decide) w' Edg.nil_
    rwa [k_l0] at this
  have L3 : Hid (∀ w', Below W9.heap.size W9 w' → Calls Try.prog 13 #[.agg #[.int .i64 2, .slice cA 2 2]] w' (IntG w' 0)) := Lib.hid fun w' hw => by
    have := long_any 2 cA knownC 2 (by decide) w' (EC.out _ hw)
    rwa [To.longI_no k_c] at this
  have I1 : Hid (∀ w' A2, Below W9.heap.size W9 w' → Zs w' w'.heap.size A2 [0, 2, 1, 3] → Calls Try.prog 14 #[.agg #[.int .i64 4, .slice gA 5 5], .slice A2 4 4] w' (BoolG w' true)) := Lib.hid fun w' A2 hw hz => by
    have := is_any 4 gA knownG 5 A2 [0, 2, 1, 3] 4 (by decide) (by decide) (by decide) w' (EG.out _ hw) hz
    rwa [k_i1] at this
  have I2 : Hid (∀ w' A2, Below W9.heap.size W9 w' → Zs w' w'.heap.size A2 [0, 1, 3, 2] → Calls Try.prog 14 #[.agg #[.int .i64 4, .slice gA 5 5], .slice A2 4 4] w' (BoolG w' false)) := Lib.hid fun w' A2 hw hz => by
    have := is_any 4 gA knownG 5 A2 [0, 1, 3, 2] 4 (by decide) (by decide) (by decide) w' (EG.out _ hw) hz
    rwa [k_i2] at this
  have I3 : Hid (∀ w' A2, Below W9.heap.size W9 w' → Zs w' w'.heap.size A2 [0, 1, 2] → Calls Try.prog 14 #[.agg #[.int .i64 4, .slice gA 5 5], .slice A2 3 3] w' (BoolG w' false)) := Lib.hid fun w' A2 hw hz => by
    have := is_any 4 gA knownG 5 A2 [0, 1, 2] 3 (by decide) (by decide) (by decide) w' (EG.out _ hw) hz
    rwa [k_i3] at this
  have I4 : Hid (∀ w' A2, Below W9.heap.size W9 w' → Zs w' w'.heap.size A2 [0, 0, 1, 3] → Calls Try.prog 14 #[.agg #[.int .i64 4, .slice gA 5 5], .slice A2 4 4] w' (BoolG w' false)) := Lib.hid fun w' A2 hw hz => by
    have := is_any 4 gA knownG 5 A2 [0, 0, 1, 3] 4 (by decide) (by decide) (by decide) w' (EG.out _ hw) hz
    rwa [k_i4] at this
  have I5 : Hid (∀ w' A2, Below W9.heap.size W9 w' → Zs w' w'.heap.size A2 [0, 1] → Calls Try.prog 14 #[.agg #[.int .i64 2, .slice cA 2 2], .slice A2 2 2] w' (BoolG w' false)) := Lib.hid fun w' A2 hw hz => by
    have := is_any 2 cA knownC 2 A2 [0, 1] 2 (by decide) (by decide) (by decide) w' (EC.out _ hw) hz
    rwa [To.isI_bad k_c] at this
  have I6 : Hid (∀ w', Below W9.heap.size W9 w' → Calls Try.prog 14 #[.agg #[.int .i64 0, .slice none 0 0], .slice none 0 0] w' (BoolG w' true)) := Lib.hid fun w' hw => by
    have := is_any 0 none [] 0 none [] 0 (by decide) (by decide) (by decide) w' Edg.nil_ Zs.nil_
    rwa [k_i0] at this
  have FB : Hid (Below W9.heap.size W9 W9) := Lib.hid (Below.refl _ _)
  clear p3 p4 e3 e4 b9 hW9 P3 P4 E3 E4 b2
  obtain ⟨⟨y0, y1⟩, y2, y3⟩ := SM.out _ FB.out
  rw [hU] at y0 y1
  rw [hcA] at y1
  go_wp2_with fail
  rw [← hcA, ← hgA, ← hX4, ← hX3] at *
  rw [← hU]
  clear hU hcA hgA hX3 hX4 y0 y1 y2 y3
  (with_reducible refine (K1.out _ FB.out).mono ?_); rintro e z1 ⟨Q1, q1, rfl, b1⟩
  try clear y0 y1 y2 y3
  have FB : Hid (Below W9.heap.size W9 z1) := Lib.hid (FB.out.trans (b1.out.mono FB.out.size))
  clear b1
  obtain ⟨⟨y0, y1⟩, y2, y3⟩ := SM.out _ FB.out
  go_wp2_with fail
  (with_reducible refine (K2.out _ FB.out).mono ?_); rintro e z2 ⟨Q2, q2, rfl, b2⟩
  try clear y0 y1 y2 y3
  have FB : Hid (Below W9.heap.size W9 z2) := Lib.hid (FB.out.trans (b2.out.mono FB.out.size))
  clear b2
  obtain ⟨⟨y0, y1⟩, y2, y3⟩ := SM.out _ FB.out
  go_wp2_with fail
  (with_reducible refine (K3.out _ FB.out).mono ?_); rintro e z3 ⟨rfl, b3⟩
  try clear y0 y1 y2 y3
  have FB : Hid (Below W9.heap.size W9 z3) := Lib.hid (FB.out.trans (b3.out.mono FB.out.size))
  clear b3
  obtain ⟨⟨y0, y1⟩, y2, y3⟩ := SM.out _ FB.out
  go_wp2_with fail
  (with_reducible refine (K4.out _ FB.out).mono ?_); rintro e z4 ⟨Q4, q4, rfl, o4, b4⟩
  try clear y0 y1 y2 y3
  have FB : Hid (Below W9.heap.size W9 z4) := Lib.hid (FB.out.trans (b4.out.mono FB.out.size))
  have Z4 : Hid (Zs z4 z4.heap.size Q4 [0, 1, 1, 2]) := o4
  clear o4
  clear b4
  obtain ⟨⟨y0, y1⟩, y2, y3⟩ := SM.out _ FB.out
  go_wp2_with fail
  (with_reducible refine (K5.out _ FB.out).mono ?_); rintro e z5 ⟨rfl, b5⟩
  try clear y0 y1 y2 y3
  have FB : Hid (Below W9.heap.size W9 z5) := Lib.hid (FB.out.trans (b5.out.mono FB.out.size))
  have Z4 : Hid (Zs z5 z5.heap.size Q4 [0, 1, 1, 2]) := Lib.hid (Z4.out.on b5.out)
  clear b5
  obtain ⟨⟨y0, y1⟩, y2, y3⟩ := SM.out _ FB.out
  go_wp2_with fail
  (with_reducible refine (K6.out _ FB.out).mono ?_); rintro e z6 ⟨rfl, b6⟩
  try clear y0 y1 y2 y3
  have FB : Hid (Below W9.heap.size W9 z6) := Lib.hid (FB.out.trans (b6.out.mono FB.out.size))
  have Z4 : Hid (Zs z6 z6.heap.size Q4 [0, 1, 1, 2]) := Lib.hid (Z4.out.on b6.out)
  clear b6
  obtain ⟨⟨y0, y1⟩, y2, y3⟩ := SM.out _ FB.out
  go_wp2_with fail
  (with_reducible refine (K7.out _ FB.out).mono ?_); rintro e z7 ⟨rfl, b7⟩
  try clear y0 y1 y2 y3
  have FB : Hid (Below W9.heap.size W9 z7) := Lib.hid (FB.out.trans (b7.out.mono FB.out.size))
  have Z4 : Hid (Zs z7 z7.heap.size Q4 [0, 1, 1, 2]) := Lib.hid (Z4.out.on b7.out)
  clear b7
  obtain ⟨⟨y0, y1⟩, y2, y3⟩ := SM.out _ FB.out
  go_wp2_with fail
  (with_reducible refine (K8.out _ FB.out).mono ?_); rintro e z8 ⟨rfl, b8⟩
  try clear y0 y1 y2 y3
  have FB : Hid (Below W9.heap.size W9 z8) := Lib.hid (FB.out.trans (b8.out.mono FB.out.size))
  have Z4 : Hid (Zs z8 z8.heap.size Q4 [0, 1, 1, 2]) := Lib.hid (Z4.out.on b8.out)
  clear b8
  obtain ⟨⟨y0, y1⟩, y2, y3⟩ := SM.out _ FB.out
  go_wp2_with fail
  (with_reducible refine (K9.out _ FB.out).mono ?_); rintro e z9 ⟨Q9, q9, rfl, -, b9⟩
  try clear y0 y1 y2 y3
  have FB : Hid (Below W9.heap.size W9 z9) := Lib.hid (FB.out.trans (b9.out.mono FB.out.size))
  have Z4 : Hid (Zs z9 z9.heap.size Q4 [0, 1, 1, 2]) := Lib.hid (Z4.out.on b9.out)
  clear b9
  obtain ⟨⟨y0, y1⟩, y2, y3⟩ := SM.out _ FB.out
  obtain ⟨z10, hu⟩ : ∃ u, u = z9.alloc (.cells #[.int .i64 0, .int .i64 1, .int .i64 1, .int .i64 2] 3) := ⟨_, rfl⟩
  have bu : Hid (Below z9.heap.size z9 z10) := Lib.hid (by rw [hu]; exact Below.new _ _)
  have ZL : Hid (Zs z10 z10.heap.size (some ⟨z9.heap.size, 0, none⟩) [0, 1, 1, 2]) := Lib.hid (by rw [hu]; exact Zs.lit (w := z9) [0, 1, 1, 2] (small_Z _ (by decide)) #[.int .i64 0, .int .i64 1, .int .i64 1, .int .i64 2] (0, 0) rfl)
  have FB : Hid (Below W9.heap.size W9 z10) := Lib.hid (FB.out.trans (bu.out.mono FB.out.size))
  have Z4 : Hid (Zs z10 z10.heap.size Q4 [0, 1, 1, 2]) := Lib.hid (Z4.out.on bu.out)
  clear bu
  have IN : Hid (Calls Try.prog 12 #[.slice Q4 4 q4, .slice (some ⟨z9.heap.size, 0, none⟩) 4 4] z10 (BoolG z10 true)) := Lib.hid (by
    have := ints_any Q4 [0, 1, 1, 2] q4 (some ⟨z9.heap.size, 0, none⟩) [0, 1, 1, 2] 4 (by decide) (by decide) z10 Z4.out ZL.out
    rwa [sameI_refl] at this)
  clear ZL Z4
  go_wp2_with fail
  rw [← hu]
  clear hu
  (with_reducible refine IN.out.mono ?_); rintro e z11 ⟨rfl, b11⟩
  clear IN
  try clear y0 y1 y2 y3
  have FB : Hid (Below W9.heap.size W9 z11) := Lib.hid (FB.out.trans (b11.out.mono FB.out.size))
  clear b11
  obtain ⟨⟨y0, y1⟩, y2, y3⟩ := SM.out _ FB.out
  go_wp2_with fail
  (with_reducible refine (L1.out _ FB.out).mono ?_); rintro e z12 ⟨rfl, b12⟩
  try clear y0 y1 y2 y3
  have FB : Hid (Below W9.heap.size W9 z12) := Lib.hid (FB.out.trans (b12.out.mono FB.out.size))
  clear b12
  obtain ⟨⟨y0, y1⟩, y2, y3⟩ := SM.out _ FB.out
  go_wp2_with fail
  (with_reducible refine (L2.out _ FB.out).mono ?_); rintro e z13 ⟨rfl, b13⟩
  try clear y0 y1 y2 y3
  have FB : Hid (Below W9.heap.size W9 z13) := Lib.hid (FB.out.trans (b13.out.mono FB.out.size))
  clear b13
  obtain ⟨⟨y0, y1⟩, y2, y3⟩ := SM.out _ FB.out
  go_wp2_with fail
  (with_reducible refine (L3.out _ FB.out).mono ?_); rintro e z14 ⟨rfl, b14⟩
  try clear y0 y1 y2 y3
  have FB : Hid (Below W9.heap.size W9 z14) := Lib.hid (FB.out.trans (b14.out.mono FB.out.size))
  clear b14
  obtain ⟨⟨y0, y1⟩, y2, y3⟩ := SM.out _ FB.out
  obtain ⟨z15, hu⟩ : ∃ u, u = z14.alloc (.cells #[.int .i64 0, .int .i64 2, .int .i64 1, .int .i64 3] 3) := ⟨_, rfl⟩
  have bu : Hid (Below z14.heap.size z14 z15) := Lib.hid (by rw [hu]; exact Below.new _ _)
  have ZL : Hid (Zs z15 z15.heap.size (some ⟨z14.heap.size, 0, none⟩) [0, 2, 1, 3]) := Lib.hid (by rw [hu]; exact Zs.lit (w := z14) [0, 2, 1, 3] (small_Z _ (by decide)) #[.int .i64 0, .int .i64 2, .int .i64 1, .int .i64 3] (0, 0) rfl)
  have FB : Hid (Below W9.heap.size W9 z15) := Lib.hid (FB.out.trans (bu.out.mono FB.out.size))
  clear bu
  have IN := Lib.hid (I1.out _ _ FB.out ZL.out)
  clear ZL
  go_wp2_with fail
  rw [← hu]
  clear hu
  (with_reducible refine IN.out.mono ?_); rintro e z16 ⟨rfl, b16⟩
  clear IN
  try clear y0 y1 y2 y3
  have FB : Hid (Below W9.heap.size W9 z16) := Lib.hid (FB.out.trans (b16.out.mono FB.out.size))
  clear b16
  obtain ⟨⟨y0, y1⟩, y2, y3⟩ := SM.out _ FB.out
  obtain ⟨z17, hu⟩ : ∃ u, u = z16.alloc (.cells #[.int .i64 0, .int .i64 1, .int .i64 3, .int .i64 2] 3) := ⟨_, rfl⟩
  have bu : Hid (Below z16.heap.size z16 z17) := Lib.hid (by rw [hu]; exact Below.new _ _)
  have ZL : Hid (Zs z17 z17.heap.size (some ⟨z16.heap.size, 0, none⟩) [0, 1, 3, 2]) := Lib.hid (by rw [hu]; exact Zs.lit (w := z16) [0, 1, 3, 2] (small_Z _ (by decide)) #[.int .i64 0, .int .i64 1, .int .i64 3, .int .i64 2] (0, 0) rfl)
  have FB : Hid (Below W9.heap.size W9 z17) := Lib.hid (FB.out.trans (bu.out.mono FB.out.size))
  clear bu
  have IN := Lib.hid (I2.out _ _ FB.out ZL.out)
  clear ZL
  go_wp2_with fail
  rw [← hu]
  clear hu
  (with_reducible refine IN.out.mono ?_); rintro e z18 ⟨rfl, b18⟩
  clear IN
  try clear y0 y1 y2 y3
  have FB : Hid (Below W9.heap.size W9 z18) := Lib.hid (FB.out.trans (b18.out.mono FB.out.size))
  clear b18
  obtain ⟨⟨y0, y1⟩, y2, y3⟩ := SM.out _ FB.out
  obtain ⟨z19, hu⟩ : ∃ u, u = z18.alloc (.cells #[.int .i64 0, .int .i64 1, .int .i64 2] 3) := ⟨_, rfl⟩
  have bu : Hid (Below z18.heap.size z18 z19) := Lib.hid (by rw [hu]; exact Below.new _ _)
  have ZL : Hid (Zs z19 z19.heap.size (some ⟨z18.heap.size, 0, none⟩) [0, 1, 2]) := Lib.hid (by rw [hu]; exact Zs.lit (w := z18) [0, 1, 2] (small_Z _ (by decide)) #[.int .i64 0, .int .i64 1, .int .i64 2] (0, 0) rfl)
  have FB : Hid (Below W9.heap.size W9 z19) := Lib.hid (FB.out.trans (bu.out.mono FB.out.size))
  clear bu
  have IN := Lib.hid (I3.out _ _ FB.out ZL.out)
  clear ZL
  go_wp2_with fail
  rw [← hu]
  clear hu
  (with_reducible refine IN.out.mono ?_); rintro e z20 ⟨rfl, b20⟩
  clear IN
  try clear y0 y1 y2 y3
  have FB : Hid (Below W9.heap.size W9 z20) := Lib.hid (FB.out.trans (b20.out.mono FB.out.size))
  clear b20
  obtain ⟨⟨y0, y1⟩, y2, y3⟩ := SM.out _ FB.out
  obtain ⟨z21, hu⟩ : ∃ u, u = z20.alloc (.cells #[.int .i64 0, .int .i64 0, .int .i64 1, .int .i64 3] 3) := ⟨_, rfl⟩
  have bu : Hid (Below z20.heap.size z20 z21) := Lib.hid (by rw [hu]; exact Below.new _ _)
  have ZL : Hid (Zs z21 z21.heap.size (some ⟨z20.heap.size, 0, none⟩) [0, 0, 1, 3]) := Lib.hid (by rw [hu]; exact Zs.lit (w := z20) [0, 0, 1, 3] (small_Z _ (by decide)) #[.int .i64 0, .int .i64 0, .int .i64 1, .int .i64 3] (0, 0) rfl)
  have FB : Hid (Below W9.heap.size W9 z21) := Lib.hid (FB.out.trans (bu.out.mono FB.out.size))
  clear bu
  have IN := Lib.hid (I4.out _ _ FB.out ZL.out)
  clear ZL
  go_wp2_with fail
  rw [← hu]
  clear hu
  (with_reducible refine IN.out.mono ?_); rintro e z22 ⟨rfl, b22⟩
  clear IN
  try clear y0 y1 y2 y3
  have FB : Hid (Below W9.heap.size W9 z22) := Lib.hid (FB.out.trans (b22.out.mono FB.out.size))
  clear b22
  obtain ⟨⟨y0, y1⟩, y2, y3⟩ := SM.out _ FB.out
  obtain ⟨z23, hu⟩ : ∃ u, u = z22.alloc (.cells #[.int .i64 0, .int .i64 1] 3) := ⟨_, rfl⟩
  have bu : Hid (Below z22.heap.size z22 z23) := Lib.hid (by rw [hu]; exact Below.new _ _)
  have ZL : Hid (Zs z23 z23.heap.size (some ⟨z22.heap.size, 0, none⟩) [0, 1]) := Lib.hid (by rw [hu]; exact Zs.lit (w := z22) [0, 1] (small_Z _ (by decide)) #[.int .i64 0, .int .i64 1] (0, 0) rfl)
  have FB : Hid (Below W9.heap.size W9 z23) := Lib.hid (FB.out.trans (bu.out.mono FB.out.size))
  clear bu
  have IN := Lib.hid (I5.out _ _ FB.out ZL.out)
  clear ZL
  go_wp2_with fail
  rw [← hu]
  clear hu
  (with_reducible refine IN.out.mono ?_); rintro e z24 ⟨rfl, b24⟩
  clear IN
  try clear y0 y1 y2 y3
  have FB : Hid (Below W9.heap.size W9 z24) := Lib.hid (FB.out.trans (b24.out.mono FB.out.size))
  clear b24
  obtain ⟨⟨y0, y1⟩, y2, y3⟩ := SM.out _ FB.out
  go_wp2_with fail
  (with_reducible refine (I6.out _ FB.out).mono ?_); rintro e z25 ⟨rfl, b25⟩
  try clear y0 y1 y2 y3
  have FB : Hid (Below W9.heap.size W9 z25) := Lib.hid (FB.out.trans (b25.out.mono FB.out.size))
  clear b25
  obtain ⟨⟨y0, y1⟩, y2, y3⟩ := SM.out _ FB.out
  go_wp2
  go_ret
  exact ⟨rfl, Lib.hid (BW.out.trans (FB.out.mono BW.out.size))⟩
end Go.Proofs.Ytgeefkfolejbnaa
