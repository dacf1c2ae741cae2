/-
  The law TopoSays walked.
-/
import Derived.Test.YtgeefkfolejbnaaToAwake
import Derived.Test.YtgeefkfolejbnaaToRefIs
import Derived.Test.YtgeefkfolejbnaaToRefPaths
import Derived.Test.YtgeefkfolejbnaaToRefLong
namespace Go.Proofs.Ytgeefkfolejbnaa
open Go.RowKit
/-- An answer of two: a row, and whether there is one. -/
def OptX (w : World) (L : List Int) (m : Nat) (B : Bool) (e : Ending) (w' : World) : Prop :=
  ∃ A cap, e = .returned (.tuple #[.slice A m cap, .bool B]) ∧ Hid (Zs w' w'.heap.size A L) ∧ Hid (Below w.heap.size w w')
theorem OptG.any {w w' : World} {o : Option (List Int)} {L : List Int} {m : Nat} {B : Bool} {e : Ending} (hL : L = o.getD []) (hm : m = L.length) (hB : B = o.isSome) (h : OptG w o e w') : OptX w L m B e w' := by
  obtain ⟨A, cap, he, _, hz, hw⟩ := h
  subst hL hm hB
  exact ⟨A, cap, he, hz, hw⟩
def NumX (w : World) (p : Nat) (B : Bool) (e : Ending) (w' : World) : Prop := e = .returned (.tuple #[.int .u64 (p : Int), .bool B]) ∧ Hid (Below w.heap.size w w')
theorem NumG.any {w w' : World} {o : Option Nat} {p : Nat} {B : Bool} {e : Ending} (hp : p = o.getD 0) (hB : B = o.isSome) (h : NumG w o e w') : NumX w p B e w' := by
  subst hp hB
  exact h
theorem To.order16 (n : Int) (es : Gr.EI) : ((To.orderI n es).getD []).length ≤ 16 := by
  cases h : To.okI n es with
  | false => rw [To.orderI_no h]; simp
  | true =>
    obtain ⟨o, _, h2, _, h3⟩ := To.orderI_yes h
    have := (To.okI_iff.1 h).1.n16
    rw [h2]
    show (Gr.ints o).length ≤ 16
    rw [Gr.ints_len, h3]; omega
theorem To.levels16 (n : Int) (es : Gr.EI) : ((To.levelsI n es).getD []).length ≤ 16 := by
  cases h : To.okI n es with
  | false => rw [To.levelsI_no h]; simp
  | true =>
    have := (To.okI_iff.1 h).1.n16
    rw [To.levelsI_yes h]
    show (Gr.ints _).length ≤ 16
    rw [Gr.ints_len, List.length_map, List.length_range]; omega
set_option maxRecDepth 100000 in
set_option maxHeartbeats 8000000 in
theorem says_walk (A : Option Addr) (es : List (Int × Int)) (cap : Nat) (A2 : Option Addr) (ls : List Int) (cap2 : Nat) (n a b : Int) (w : World) (hl : es.length ≤ 9223372036854775807) (_hcap : es.length ≤ cap) (h : Edg w w.heap.size A es) (hl2 : ls.length ≤ 9223372036854775807) (hcap2 : ls.length ≤ cap2) (h2 : Zs w w.heap.size A2 ls) (a0 : -9223372036854775808 ≤ a) (a1 : a ≤ 9223372036854775807) (b0 : -9223372036854775808 ≤ b) (b1 : b ≤ 9223372036854775807) :
    Calls Try.prog 4 #[.agg #[.int .i64 n, .slice A es.length cap], .slice A2 ls.length cap2, .int .i64 a, .int .i64 b] w (BoolG w true) := by
  have AW : Hid (∀ W, Calls Try.prog 8 #[] W (BoolG W true)) := Lib.hid awake_any
  have H := Lib.hid h
  have H2 := Lib.hid h2
  have IA : Hid (inI a) := Lib.hid ⟨a0, a1⟩
  have IB : Hid (inI b) := Lib.hid ⟨b0, b1⟩
  have HC2 := Lib.hid hcap2
  obtain ⟨l, hll⟩ : ∃ l, l = es.length := ⟨_, rfl⟩
  have HLL := Lib.hid hll
  obtain ⟨l2, hll2⟩ : ∃ l2, l2 = ls.length := ⟨_, rfl⟩
  have HLL2 := Lib.hid hll2
  rw [← hll, ← hll2]
  obtain ⟨W1, hW1⟩ : ∃ W1, W1 = w.alloc (.cells #[.int .i64 n, .slice A l cap] 27) := ⟨_, rfl⟩
  have P1 : Hid (W1.heap[w.heap.size]? = some (.cells #[.int .i64 n, .slice A l cap] 27 (0, 0))) := Lib.hid (by rw [hW1]; exact heap_alloc_new ..)
  have B1 : Hid (Below w.heap.size w W1) := Lib.hid (by rw [hW1]; exact (Below.refl _ _).alloc (Nat.le_refl _) _)
  clear h hl hll h2 hl2 hcap2 hll2 _hcap a0 a1 b0 b1
  go_enter Try.func4, Try.ntmps4
  go_wp2_with fail
  rw [← hW1]
  clear hW1
  (with_reducible refine (AW.out _).mono ?_); rintro e w2 ⟨rfl, b2⟩
  have P2 : Hid (w2.heap[w.heap.size]? = some (.cells #[.int .i64 n, .slice A l cap] 27 (0, 0))) := Lib.hid ((b2.out.block _ (lt_of_block P1.out)).trans P1.out)
  have B2 : Hid (Below w.heap.size w w2) := Lib.hid (B1.out.trans (b2.out.mono B1.out.size))
  clear b2
  obtain ⟨⟨y0, y1⟩, -⟩ := obG P2.out
  by_cases h60 : 60 < l
  · have h60' : (60 : Int) < (l : Int) := by omega
    go_wp2
    go_ret
    exact ⟨rfl, B2⟩
  have h60' : (l : Int) ≤ 60 := by omega
  by_cases h30 : 30 < l2
  · have h30' : (30 : Int) < (l2 : Int) := by omega
    clear h60
    go_wp2
    go_ret
    exact ⟨rfl, B2⟩
  have h30' : (l2 : Int) ≤ 30 := by omega
  have hl60 : l ≤ 60 := by omega
  have hl30 : l2 ≤ 30 := by omega
  have OW : Hid (Calls Try.prog 15 #[.agg #[.int .i64 n, .slice A l cap]] w2 (RefPost w2 n es)) := Lib.hid (by
    have := own_any n A es cap (by rw [← HLL.out]; omega) w2 (H.out.on B2.out)
    rwa [← HLL.out] at this)
  have K60 := Lib.hid hl60
  have K30 := Lib.hid hl30
  clear h60 h30 hl60 hl30
  go_wp2_with fail
  (with_reducible refine OW.out.mono ?_); rintro e w3 ⟨A3, c3, rfl, o3, b3⟩
  rw [← HLL.out]
  have P3 : Hid (w3.heap[w.heap.size]? = some (.cells #[.int .i64 n, .slice A l cap] 27 (0, 0))) := Lib.hid ((b3.out.block _ (lt_of_block P2.out)).trans P2.out)
  have B3 : Hid (Below w.heap.size w w3) := Lib.hid (B2.out.trans (b3.out.mono B2.out.size))
  have hw3 : w.heap.size < w3.heap.size := lt_of_block P3.out
  clear b3 y0 y1 OW
  obtain ⟨X, hX⟩ : ∃ X, X = w3.heap.size := ⟨_, rfl⟩
  obtain ⟨W4, hW4⟩ : ∃ W4, W4 = w3.alloc (.cells #[.int .i64 n, .slice A3 l c3] 39) := ⟨_, rfl⟩
  have X4 : Hid (W4.heap[X]? = some (.cells #[.int .i64 n, .slice A3 l c3] 39 (0, 0))) := Lib.hid (by rw [hW4, hX]; exact heap_alloc_new ..)
  have C4 : Hid (Below w3.heap.size w3 W4) := Lib.hid (by rw [hW4]; exact (Below.refl _ _).alloc (Nat.le_refl _) _)
  have P4 : Hid (W4.heap[w.heap.size]? = some (.cells #[.int .i64 n, .slice A l cap] 27 (0, 0))) := Lib.hid ((C4.out.block _ hw3).trans P3.out)
  have B4 : Hid (Below w.heap.size w W4) := Lib.hid (B3.out.trans (C4.out.mono B3.out.size))
  have E4 : Hid (Edg W4 W4.heap.size A3 es) := Lib.hid (o3.out.on C4.out)
  have G4 : Hid (Edg W4 W4.heap.size A es) := Lib.hid (H.out.on B4.out)
  have Q4 : Hid (Zs W4 W4.heap.size A2 ls) := Lib.hid (H2.out.on B4.out)
  have SM : Hid (∀ w', Below W4.heap.size W4 w' → w'.cell? ⟨w.heap.size, 0, none⟩ = some (.int .i64 n) ∧ w'.cell? ⟨w.heap.size, 1, none⟩ = some (.slice A l cap) ∧ w'.cell? ⟨X, 0, none⟩ = some (.int .i64 n) ∧ w'.cell? ⟨X, 1, none⟩ = some (.slice A3 l c3)) := Lib.hid fun w' hw => by
    have h1 := (obG ((hw.block _ (lt_of_block P4.out)).trans P4.out)).1
    have h2 := (obG ((hw.block _ (lt_of_block X4.out)).trans X4.out)).1
    exact ⟨h1.1, h1.2, h2.1, h2.2⟩
  obtain ⟨oL, hoL⟩ : ∃ oL, oL = (To.orderI n es).getD [] := ⟨_, rfl⟩
  obtain ⟨oB, hoB⟩ : ∃ oB, oB = (To.orderI n es).isSome := ⟨_, rfl⟩
  obtain ⟨om, hom⟩ : ∃ om, om = oL.length := ⟨_, rfl⟩
  obtain ⟨dL, hdL⟩ : ∃ dL, dL = (To.levelsI n es).getD [] := ⟨_, rfl⟩
  obtain ⟨dB, hdB⟩ : ∃ dB, dB = (To.levelsI n es).isSome := ⟨_, rfl⟩
  obtain ⟨dm, hdm⟩ : ∃ dm, dm = dL.length := ⟨_, rfl⟩
  obtain ⟨pp, hpp⟩ : ∃ pp, pp = (To.pathsI n es a b).getD 0 := ⟨_, rfl⟩
  obtain ⟨pB, hpB⟩ : ∃ pB, pB = (To.pathsI n es a b).isSome := ⟨_, rfl⟩
  obtain ⟨iB, hiB⟩ : ∃ iB, iB = To.isI n es ls := ⟨_, rfl⟩
  obtain ⟨lo, hlo⟩ : ∃ lo, lo = To.longI n es := ⟨_, rfl⟩
  have O16 : Hid (om ≤ 16) := Lib.hid (by rw [hom, hoL]; exact To.order16 _ _)
  have D16 : Hid (dm ≤ 16) := Lib.hid (by rw [hdm, hdL]; exact To.levels16 _ _)
  have OM := Lib.hid hom
  have DM := Lib.hid hdm
  have K1 : Hid (∀ W, Below W4.heap.size W4 W → Calls Try.prog 9 #[.agg #[.int .i64 n, .slice A l cap]] W (OptX W oL om oB)) := Lib.hid fun W hW => by
    have := order_any n A es cap (by have := K60.out; have := HLL.out; omega) W (G4.out.on hW)
    rw [← HLL.out] at this
    exact this.mono fun e w' h => h.any hoL hom hoB
  have K2 : Hid (∀ W, Below W4.heap.size W4 W → Calls Try.prog 16 #[.agg #[.int .i64 n, .slice A3 l c3]] W (OptX W oL om oB)) := Lib.hid fun W hW => by
    have := refOrder_any n A3 es c3 (by have := K60.out; have := HLL.out; omega) W (E4.out.on hW)
    rw [← HLL.out] at this
    exact this.mono fun e w' h => h.any hoL hom hoB
  have K3 : Hid (∀ W, Below W4.heap.size W4 W → Calls Try.prog 10 #[.agg #[.int .i64 n, .slice A l cap]] W (OptX W dL dm dB)) := Lib.hid fun W hW => by
    have := levels_any n A es cap (by have := K60.out; have := HLL.out; omega) W (G4.out.on hW)
    rw [← HLL.out] at this
    exact this.mono fun e w' h => h.any hdL hdm hdB
  have K4 : Hid (∀ W, Below W4.heap.size W4 W → Calls Try.prog 17 #[.agg #[.int .i64 n, .slice A3 l c3]] W (OptX W dL dm dB)) := Lib.hid fun W hW => by
    have := refLevels_any n A3 es c3 (by have := K60.out; have := HLL.out; omega) W (E4.out.on hW)
    rw [← HLL.out] at this
    exact this.mono fun e w' h => h.any hdL hdm hdB
  have K5 : Hid (∀ W, Below W4.heap.size W4 W → Calls Try.prog 11 #[.agg #[.int .i64 n, .slice A l cap], .int .i64 a, .int .i64 b] W (NumX W pp pB)) := Lib.hid fun W hW => by
    have := paths_any n A es cap a b IA.out IB.out (by have := K60.out; have := HLL.out; omega) W (G4.out.on hW)
    rw [← HLL.out] at this
    exact this.mono fun e w' h => h.any hpp hpB
  have K6 : Hid (∀ W, Below W4.heap.size W4 W → Calls Try.prog 18 #[.agg #[.int .i64 n, .slice A3 l c3], .int .i64 a, .int .i64 b] W (NumX W pp pB)) := Lib.hid fun W hW => by
    have := refPaths_any n A3 es c3 a b (by have := K60.out; have := HLL.out; omega) W (E4.out.on hW)
    rw [← HLL.out] at this
    exact this.mono fun e w' h => h.any hpp hpB
  have K7 : Hid (∀ W, Below W4.heap.size W4 W → Calls Try.prog 14 #[.agg #[.int .i64 n, .slice A l cap], .slice A2 l2 cap2] W (BoolG W iB)) := Lib.hid fun W hW => by
    have := is_any n A es cap A2 ls cap2 (by have := K60.out; have := HLL.out; omega) (by have := K30.out; have := HLL2.out; omega) HC2.out W (G4.out.on hW) (Q4.out.on hW)
    rw [← HLL.out] at this
    rwa [← HLL2.out, ← hiB] at this
  have K8 : Hid (∀ W, Below W4.heap.size W4 W → Calls Try.prog 19 #[.agg #[.int .i64 n, .slice A3 l c3], .slice A2 l2 cap2] W (BoolG W iB)) := Lib.hid fun W hW => by
    have := refIs_any n A3 es c3 A2 ls cap2 (by have := K60.out; have := HLL.out; omega) (by have := K30.out; have := HLL2.out; omega) HC2.out W (E4.out.on hW) (Q4.out.on hW)
    rw [← HLL.out] at this
    rwa [← HLL2.out, ← hiB] at this
  have K9 : Hid (∀ W, Below W4.heap.size W4 W → Calls Try.prog 13 #[.agg #[.int .i64 n, .slice A l cap]] W (IntG W lo)) := Lib.hid fun W hW => by
    have := long_any n A es cap (by have := K60.out; have := HLL.out; omega) W (G4.out.on hW)
    rw [← HLL.out] at this
    rwa [← hlo] at this
  have K10 : Hid (∀ W, Below W4.heap.size W4 W → Calls Try.prog 20 #[.agg #[.int .i64 n, .slice A3 l c3]] W (IntG W lo)) := Lib.hid fun W hW => by
    have := refLong_any n A3 es c3 (by have := K60.out; have := HLL.out; omega) W (E4.out.on hW)
    rw [← HLL.out] at this
    rwa [← hlo] at this
  have FB : Hid (Below W4.heap.size W4 W4) := Lib.hid (Below.refl _ _)
  clear hoL hoB hom hdL hdB hdm hpp hpB hiB hlo o3 P1 P2 P3 P4 X4 C4 E4 G4 Q4 B1 B2 B3 hw3
  obtain ⟨y0, y1, -, -⟩ := SM.out _ FB.out
  rw [hW4] at y0 y1
  go_wp2_with fail
  rw [← hW4, ← hX]
  clear hW4 hX y0 y1
  (with_reducible refine (K1.out _ FB.out).mono ?_); rintro e z1 ⟨Q1, q1, rfl, o1, b1⟩
  have FB : Hid (Below W4.heap.size W4 z1) := Lib.hid (FB.out.trans (b1.out.mono FB.out.size))
  have Z1 : Hid (Zs z1 z1.heap.size Q1 oL) := o1
  clear b1 o1
  obtain ⟨y0, y1, y2, y3⟩ := SM.out _ FB.out
  go_wp2_with fail
  (with_reducible refine (K2.out _ FB.out).mono ?_); rintro e z2 ⟨Q2, q2, rfl, o2, b2⟩
  have FB : Hid (Below W4.heap.size W4 z2) := Lib.hid (FB.out.trans (b2.out.mono FB.out.size))
  have Z1 : Hid (Zs z2 z2.heap.size Q1 oL) := Lib.hid (Z1.out.on b2.out)
  have Z2 : Hid (Zs z2 z2.heap.size Q2 oL) := o2
  clear y0 y1 y2 y3
  clear b2 o2
  obtain ⟨y0, y1, y2, y3⟩ := SM.out _ FB.out
  go_wp2_with fail
  (with_reducible refine (K3.out _ FB.out).mono ?_); rintro e z3 ⟨Q3, q3, rfl, o3, b3⟩
  have FB : Hid (Below W4.heap.size W4 z3) := Lib.hid (FB.out.trans (b3.out.mono FB.out.size))
  have Z1 : Hid (Zs z3 z3.heap.size Q1 oL) := Lib.hid (Z1.out.on b3.out)
  have Z2 : Hid (Zs z3 z3.heap.size Q2 oL) := Lib.hid (Z2.out.on b3.out)
  have Z3 : Hid (Zs z3 z3.heap.size Q3 dL) := o3
  clear y0 y1 y2 y3
  clear b3 o3
  obtain ⟨y0, y1, y2, y3⟩ := SM.out _ FB.out
  go_wp2_with fail
  (with_reducible refine (K4.out _ FB.out).mono ?_); rintro e z4 ⟨Q4, q4, rfl, o4, b4⟩
  have FB : Hid (Below W4.heap.size W4 z4) := Lib.hid (FB.out.trans (b4.out.mono FB.out.size))
  have Z1 : Hid (Zs z4 z4.heap.size Q1 oL) := Lib.hid (Z1.out.on b4.out)
  have Z2 : Hid (Zs z4 z4.heap.size Q2 oL) := Lib.hid (Z2.out.on b4.out)
  have Z3 : Hid (Zs z4 z4.heap.size Q3 dL) := Lib.hid (Z3.out.on b4.out)
  have Z4 : Hid (Zs z4 z4.heap.size Q4 dL) := o4
  clear y0 y1 y2 y3
  clear b4 o4
  obtain ⟨y0, y1, y2, y3⟩ := SM.out _ FB.out
  go_wp2_with fail
  (with_reducible refine (K5.out _ FB.out).mono ?_); rintro e z5 ⟨rfl, b5⟩
  have FB : Hid (Below W4.heap.size W4 z5) := Lib.hid (FB.out.trans (b5.out.mono FB.out.size))
  have Z1 : Hid (Zs z5 z5.heap.size Q1 oL) := Lib.hid (Z1.out.on b5.out)
  have Z2 : Hid (Zs z5 z5.heap.size Q2 oL) := Lib.hid (Z2.out.on b5.out)
  have Z3 : Hid (Zs z5 z5.heap.size Q3 dL) := Lib.hid (Z3.out.on b5.out)
  have Z4 : Hid (Zs z5 z5.heap.size Q4 dL) := Lib.hid (Z4.out.on b5.out)
  clear y0 y1 y2 y3
  clear b5
  obtain ⟨y0, y1, y2, y3⟩ := SM.out _ FB.out
  go_wp2_with fail
  (with_reducible refine (K6.out _ FB.out).mono ?_); rintro e z6 ⟨rfl, b6⟩
  have FB : Hid (Below W4.heap.size W4 z6) := Lib.hid (FB.out.trans (b6.out.mono FB.out.size))
  have Z1 : Hid (Zs z6 z6.heap.size Q1 oL) := Lib.hid (Z1.out.on b6.out)
  have Z2 : Hid (Zs z6 z6.heap.size Q2 oL) := Lib.hid (Z2.out.on b6.out)
  have Z3 : Hid (Zs z6 z6.heap.size Q3 dL) := Lib.hid (Z3.out.on b6.out)
  have Z4 : Hid (Zs z6 z6.heap.size Q4 dL) := Lib.hid (Z4.out.on b6.out)
  clear y0 y1 y2 y3
  clear b6
  obtain ⟨y0, y1, y2, y3⟩ := SM.out _ FB.out
  clear K1 K2 K3 K4 K5 K6 y0 y1 y2 y3
  go_wp2_with fail
  have FB : Hid (Below W4.heap.size W4 z6.drew) := Lib.hid FB.out.drew
  have Z1 : Hid (Zs z6.drew z6.drew.heap.size Q1 oL) := Lib.hid Z1.out
  have Z2 : Hid (Zs z6.drew z6.drew.heap.size Q2 oL) := Lib.hid Z2.out
  have Z3 : Hid (Zs z6.drew z6.drew.heap.size Q3 dL) := Lib.hid Z3.out
  have Z4 : Hid (Zs z6.drew z6.drew.heap.size Q4 dL) := Lib.hid Z4.out
  refine wp_region_held_drew (S := fun w' => w'.cell? ⟨w.heap.size, 0, none⟩ = some (.int .i64 n) ∧ w'.cell? ⟨w.heap.size, 1, none⟩ = some (.slice A l cap) ∧ w'.cell? ⟨X, 0, none⟩ = some (.int .i64 n) ∧ w'.cell? ⟨X, 1, none⟩ = some (.slice A3 l c3)) (by kernel_rfl) ?hS0 (fun hHeld => ?_)
  case hS0 => exact (SM.out _ FB.out)
  generalize z6.drew = z7 at *
  refine wpAnyH_take (i := 0) (oi := ?o1) (v := ?v1) ?hi1 (by kernel_rfl) (by kernel_rfl) (by kernel_rfl) ?hQ1 (Or.inl ⟨?hg1, ?hy1⟩) (by assumption) ?rest1
  case hi1 => (simp only [List.getElem?_toArray, List.getElem?_cons_zero]; exact rfl)
  case hQ1 => exact fun _ _ _ h => h
  case hg1 => rfl
  case hy1 => (intro w' hSw; (try dsimp only at hSw); go_simp; try with_reducible rfl)
  try simp only [Act.put, List.setIfInBounds_toArray, List.set_cons_zero, List.set_cons_succ]
  refine wpAnyH_take (i := 1) (oi := ?o2) (v := ?v2) ?hi2 (by kernel_rfl) (by kernel_rfl) (by kernel_rfl) ?hQ2 (Or.inl ⟨?hg2, ?hy2⟩) (by assumption) ?rest2
  case hi2 => (simp only [List.getElem?_toArray, List.getElem?_cons_zero, List.getElem?_cons_succ]; exact rfl)
  case hQ2 => exact fun _ _ _ h => h
  case hg2 => rfl
  case hy2 => (intro w' hSw; (try dsimp only at hSw); go_simp; try with_reducible rfl)
  try simp only [Act.put, List.setIfInBounds_toArray, List.set_cons_zero, List.set_cons_succ]
  refine wpAnyH_take (i := 2) (oi := ?o3) (v := ?v3) ?hi3 (by kernel_rfl) (by kernel_rfl) (by kernel_rfl) ?hQ3 (Or.inl ⟨?hg3, ?hy3⟩) (by assumption) ?rest3
  case hi3 => (simp only [List.getElem?_toArray, List.getElem?_cons_zero, List.getElem?_cons_succ]; exact rfl)
  case hQ3 => exact fun _ _ _ h => h
  case hg3 => rfl
  case hy3 => (intro w' hSw; (try dsimp only at hSw); go_simp; try with_reducible rfl)
  try simp only [Act.put, List.setIfInBounds_toArray, List.set_cons_zero, List.set_cons_succ]
  refine wpAnyH_take (i := 3) (oi := ?o4) (v := ?v4) ?hi4 (by kernel_rfl) (by kernel_rfl) (by kernel_rfl) ?hQ4 (Or.inl ⟨?hg4, ?hy4⟩) (by assumption) ?rest4
  case hi4 => (simp only [List.getElem?_toArray, List.getElem?_cons_zero, List.getElem?_cons_succ]; exact rfl)
  case hQ4 => exact fun _ _ _ h => h
  case hg4 => rfl
  case hy4 => (intro w' hSw; (try dsimp only at hSw); go_simp; try with_reducible rfl)
  try simp only [Act.put, List.setIfInBounds_toArray, List.set_cons_zero, List.set_cons_succ]
  refine wpAnyH_take (i := 4) (oi := ?o5) (v := ?v5) ?hi5 (by kernel_rfl) (by kernel_rfl) (by kernel_rfl) ?hQ5 (Or.inl ⟨?hg5, ?hy5⟩) (by assumption) ?rest5
  case hi5 => (simp only [List.getElem?_toArray, List.getElem?_cons_zero, List.getElem?_cons_succ]; exact rfl)
  case hQ5 => exact fun _ _ _ h => h
  case hg5 => rfl
  case hy5 => (intro w' hSw; (try dsimp only at hSw); go_simp; try with_reducible rfl)
  try simp only [Act.put, List.setIfInBounds_toArray, List.set_cons_zero, List.set_cons_succ]
  refine wpAnyH_take (i := 5) (oi := ?o6) (v := ?v6) ?hi6 (by kernel_rfl) (by kernel_rfl) (by kernel_rfl) ?hQ6 (Or.inl ⟨?hg6, ?hy6⟩) (by assumption) ?rest6
  case hi6 => (simp only [List.getElem?_toArray, List.getElem?_cons_zero, List.getElem?_cons_succ]; exact rfl)
  case hQ6 => exact fun _ _ _ h => h
  case hg6 => rfl
  case hy6 => (intro w' hSw; (try dsimp only at hSw); go_simp; try with_reducible rfl)
  try simp only [Act.put, List.setIfInBounds_toArray, List.set_cons_zero, List.set_cons_succ]
  have IN : Hid (Calls Try.prog 12 #[.slice Q1 om q1, .slice Q2 om q2] z7 (BoolG z7 true)) := Lib.hid (by
    have := ints_any Q1 oL q1 Q2 oL q2 (by have := O16.out; have := OM.out; omega) (by have := O16.out; have := OM.out; omega) z7 Z1.out Z2.out
    rwa [sameI_refl, ← OM.out] at this)
  refine wpAnyH_ready (rs := [6]) (by kernel_rfl) (by simp) ?_
  refine AllReadyH.cons (o := ?o7) ?hi7 (fun K hK => ?_) AllReadyH.nil
  case hi7 => (simp only [List.getElem?_toArray, List.getElem?_cons_zero, List.getElem?_cons_succ]; exact rfl)
  (go_simp; go_at_call 12; (with_reducible refine (IN.out).mono ?_); rintro e z8 ⟨rfl, b8⟩; try dsimp only)
  have FB : Hid (Below W4.heap.size W4 z8) := Lib.hid (FB.out.trans (b8.out.mono FB.out.size))
  have Z1 : Hid (Zs z8 z8.heap.size Q1 oL) := Lib.hid (Z1.out.on b8.out)
  have Z2 : Hid (Zs z8 z8.heap.size Q2 oL) := Lib.hid (Z2.out.on b8.out)
  have Z3 : Hid (Zs z8 z8.heap.size Q3 dL) := Lib.hid (Z3.out.on b8.out)
  have Z4 : Hid (Zs z8 z8.heap.size Q4 dL) := Lib.hid (Z4.out.on b8.out)
  refine hK.out _ _ ?_ (fun hHeld => ?_)
  · exact SM.out _ FB.out
  clear hK K
  try simp only [Act.put, List.setIfInBounds_toArray, List.set_cons_zero, List.set_cons_succ]
  clear b8
  clear IN
  refine wpAnyH_take (i := 7) (oi := ?o8) (v := ?v8) ?hi8 (by kernel_rfl) (by kernel_rfl) (by kernel_rfl) ?hQ8 (Or.inl ⟨?hg8, ?hy8⟩) (by assumption) ?rest8
  case hi8 => (simp only [List.getElem?_toArray, List.getElem?_cons_zero, List.getElem?_cons_succ]; exact rfl)
  case hQ8 => exact fun _ _ _ h => h
  case hg8 => rfl
  case hy8 => (intro w' hSw; (try dsimp only at hSw); go_simp; try with_reducible rfl)
  try simp only [Act.put, List.setIfInBounds_toArray, List.set_cons_zero, List.set_cons_succ]
  refine wpAnyH_take (i := 8) (oi := ?o9) (v := ?v9) ?hi9 (by kernel_rfl) (by kernel_rfl) (by kernel_rfl) ?hQ9 (Or.inl ⟨?hg9, ?hy9⟩) (by assumption) ?rest9
  case hi9 => (simp only [List.getElem?_toArray, List.getElem?_cons_zero, List.getElem?_cons_succ]; exact rfl)
  case hQ9 => exact fun _ _ _ h => h
  case hg9 => rfl
  case hy9 => (intro w' hSw; (try dsimp only at hSw); go_simp; try with_reducible rfl)
  try simp only [Act.put, List.setIfInBounds_toArray, List.set_cons_zero, List.set_cons_succ]
  refine wpAnyH_take (i := 9) (oi := ?o10) (v := ?v10) ?hi10 (by kernel_rfl) (by kernel_rfl) (by kernel_rfl) ?hQ10 (Or.inl ⟨?hg10, ?hy10⟩) (by assumption) ?rest10
  case hi10 => (simp only [List.getElem?_toArray, List.getElem?_cons_zero, List.getElem?_cons_succ]; exact rfl)
  case hQ10 => exact fun _ _ _ h => h
  case hg10 => rfl
  case hy10 => (intro w' hSw; (try dsimp only at hSw); go_simp; try with_reducible rfl)
  try simp only [Act.put, List.setIfInBounds_toArray, List.set_cons_zero, List.set_cons_succ]
  refine wpAnyH_take (i := 10) (oi := ?o11) (v := ?v11) ?hi11 (by kernel_rfl) (by kernel_rfl) (by kernel_rfl) ?hQ11 (Or.inl ⟨?hg11, ?hy11⟩) (by assumption) ?rest11
  case hi11 => (simp only [List.getElem?_toArray, List.getElem?_cons_zero, List.getElem?_cons_succ]; exact rfl)
  case hQ11 => exact fun _ _ _ h => h
  case hg11 => rfl
  case hy11 => (intro w' hSw; (try dsimp only at hSw); go_simp; try with_reducible rfl)
  try simp only [Act.put, List.setIfInBounds_toArray, List.set_cons_zero, List.set_cons_succ]
  refine wpAnyH_take (i := 11) (oi := ?o12) (v := ?v12) ?hi12 (by kernel_rfl) (by kernel_rfl) (by kernel_rfl) ?hQ12 (Or.inl ⟨?hg12, ?hy12⟩) (by assumption) ?rest12
  case hi12 => (simp only [List.getElem?_toArray, List.getElem?_cons_zero, List.getElem?_cons_succ]; exact rfl)
  case hQ12 => exact fun _ _ _ h => h
  case hg12 => rfl
  case hy12 => (intro w' hSw; (try dsimp only at hSw); go_simp; try with_reducible rfl)
  try simp only [Act.put, List.setIfInBounds_toArray, List.set_cons_zero, List.set_cons_succ]
  refine wpAnyH_take (i := 12) (oi := ?o13) (v := ?v13) ?hi13 (by kernel_rfl) (by kernel_rfl) (by kernel_rfl) ?hQ13 (Or.inl ⟨?hg13, ?hy13⟩) (by assumption) ?rest13
  case hi13 => (simp only [List.getElem?_toArray, List.getElem?_cons_zero, List.getElem?_cons_succ]; exact rfl)
  case hQ13 => exact fun _ _ _ h => h
  case hg13 => rfl
  case hy13 => (intro w' hSw; (try dsimp only at hSw); go_simp; try with_reducible rfl)
  try simp only [Act.put, List.setIfInBounds_toArray, List.set_cons_zero, List.set_cons_succ]
  refine wpAnyH_take (i := 13) (oi := ?o14) (v := ?v14) ?hi14 (by kernel_rfl) (by kernel_rfl) (by kernel_rfl) ?hQ14 (Or.inl ⟨?hg14, ?hy14⟩) (by assumption) ?rest14
  case hi14 => (simp only [List.getElem?_toArray, List.getElem?_cons_zero, List.getElem?_cons_succ]; exact rfl)
  case hQ14 => exact fun _ _ _ h => h
  case hg14 => rfl
  case hy14 => (intro w' hSw; (try dsimp only at hSw); go_simp; try with_reducible rfl)
  try simp only [Act.put, List.setIfInBounds_toArray, List.set_cons_zero, List.set_cons_succ]
  refine wpAnyH_take (i := 14) (oi := ?o15) (v := ?v15) ?hi15 (by kernel_rfl) (by kernel_rfl) (by kernel_rfl) ?hQ15 (Or.inl ⟨?hg15, ?hy15⟩) (by assumption) ?rest15
  case hi15 => (simp only [List.getElem?_toArray, List.getElem?_cons_zero, List.getElem?_cons_succ]; exact rfl)
  case hQ15 => exact fun _ _ _ h => h
  case hg15 => rfl
  case hy15 => (intro w' hSw; (try dsimp only at hSw); go_simp; try with_reducible rfl)
  try simp only [Act.put, List.setIfInBounds_toArray, List.set_cons_zero, List.set_cons_succ]
  refine wpAnyH_take (i := 15) (oi := ?o16) (v := ?v16) ?hi16 (by kernel_rfl) (by kernel_rfl) (by kernel_rfl) ?hQ16 (Or.inl ⟨?hg16, ?hy16⟩) (by assumption) ?rest16
  case hi16 => (simp only [List.getElem?_toArray, List.getElem?_cons_zero, List.getElem?_cons_succ]; exact rfl)
  case hQ16 => exact fun _ _ _ h => h
  case hg16 => rfl
  case hy16 => (intro w' hSw; (try dsimp only at hSw); go_simp; try with_reducible rfl)
  try simp only [Act.put, List.setIfInBounds_toArray, List.set_cons_zero, List.set_cons_succ]
  have IN : Hid (Calls Try.prog 12 #[.slice Q3 dm q3, .slice Q4 dm q4] z8 (BoolG z8 true)) := Lib.hid (by
    have := ints_any Q3 dL q3 Q4 dL q4 (by have := D16.out; have := DM.out; omega) (by have := D16.out; have := DM.out; omega) z8 Z3.out Z4.out
    rwa [sameI_refl, ← DM.out] at this)
  refine wpAnyH_ready (rs := [16]) (by kernel_rfl) (by simp) ?_
  refine AllReadyH.cons (o := ?o17) ?hi17 (fun K hK => ?_) AllReadyH.nil
  case hi17 => (simp only [List.getElem?_toArray, List.getElem?_cons_zero, List.getElem?_cons_succ]; exact rfl)
  (go_simp; go_at_call 12; (with_reducible refine (IN.out).mono ?_); rintro e z9 ⟨rfl, b9⟩; try dsimp only)
  have FB : Hid (Below W4.heap.size W4 z9) := Lib.hid (FB.out.trans (b9.out.mono FB.out.size))
  have Z1 : Hid (Zs z9 z9.heap.size Q1 oL) := Lib.hid (Z1.out.on b9.out)
  have Z2 : Hid (Zs z9 z9.heap.size Q2 oL) := Lib.hid (Z2.out.on b9.out)
  have Z3 : Hid (Zs z9 z9.heap.size Q3 dL) := Lib.hid (Z3.out.on b9.out)
  have Z4 : Hid (Zs z9 z9.heap.size Q4 dL) := Lib.hid (Z4.out.on b9.out)
  refine hK.out _ _ ?_ (fun hHeld => ?_)
  · exact SM.out _ FB.out
  clear hK K
  try simp only [Act.put, List.setIfInBounds_toArray, List.set_cons_zero, List.set_cons_succ]
  clear b9
  clear IN
  refine wpAnyH_take (i := 17) (oi := ?o18) (v := ?v18) ?hi18 (by kernel_rfl) (by kernel_rfl) (by kernel_rfl) ?hQ18 (Or.inl ⟨?hg18, ?hy18⟩) (by assumption) ?rest18
  case hi18 => (simp only [List.getElem?_toArray, List.getElem?_cons_zero, List.getElem?_cons_succ]; exact rfl)
  case hQ18 => exact fun _ _ _ h => h
  case hg18 => rfl
  case hy18 => (intro w' hSw; (try dsimp only at hSw); go_simp; try with_reducible rfl)
  try simp only [Act.put, List.setIfInBounds_toArray, List.set_cons_zero, List.set_cons_succ]
  refine wpAnyH_take (i := 18) (oi := ?o19) (v := ?v19) ?hi19 (by kernel_rfl) (by kernel_rfl) (by kernel_rfl) ?hQ19 (Or.inl ⟨?hg19, ?hy19⟩) (by assumption) ?rest19
  case hi19 => (simp only [List.getElem?_toArray, List.getElem?_cons_zero, List.getElem?_cons_succ]; exact rfl)
  case hQ19 => exact fun _ _ _ h => h
  case hg19 => rfl
  case hy19 => (intro w' hSw; (try dsimp only at hSw); go_simp; try with_reducible rfl)
  try simp only [Act.put, List.setIfInBounds_toArray, List.set_cons_zero, List.set_cons_succ]
  refine wpAnyH_take (i := 19) (oi := ?o20) (v := ?v20) ?hi20 (by kernel_rfl) (by kernel_rfl) (by kernel_rfl) ?hQ20 (Or.inl ⟨?hg20, ?hy20⟩) (by assumption) ?rest20
  case hi20 => (simp only [List.getElem?_toArray, List.getElem?_cons_zero, List.getElem?_cons_succ]; exact rfl)
  case hQ20 => exact fun _ _ _ h => h
  case hg20 => rfl
  case hy20 => (intro w' hSw; (try dsimp only at hSw); go_simp; try with_reducible rfl)
  try simp only [Act.put, List.setIfInBounds_toArray, List.set_cons_zero, List.set_cons_succ]
  refine wpAnyH_take (i := 20) (oi := ?o21) (v := ?v21) ?hi21 (by kernel_rfl) (by kernel_rfl) (by kernel_rfl) ?hQ21 (Or.inl ⟨?hg21, ?hy21⟩) (by assumption) ?rest21
  case hi21 => (simp only [List.getElem?_toArray, List.getElem?_cons_zero, List.getElem?_cons_succ]; exact rfl)
  case hQ21 => exact fun _ _ _ h => h
  case hg21 => rfl
  case hy21 => (intro w' hSw; (try dsimp only at hSw); go_simp; try with_reducible rfl)
  try simp only [Act.put, List.setIfInBounds_toArray, List.set_cons_zero, List.set_cons_succ]
  refine wpAnyH_take (i := 21) (oi := ?o22) (v := ?v22) ?hi22 (by kernel_rfl) (by kernel_rfl) (by kernel_rfl) ?hQ22 (Or.inl ⟨?hg22, ?hy22⟩) (by assumption) ?rest22
  case hi22 => (simp only [List.getElem?_toArray, List.getElem?_cons_zero, List.getElem?_cons_succ]; exact rfl)
  case hQ22 => exact fun _ _ _ h => h
  case hg22 => rfl
  case hy22 => (intro w' hSw; (try dsimp only at hSw); go_simp; try with_reducible rfl)
  try simp only [Act.put, List.setIfInBounds_toArray, List.set_cons_zero, List.set_cons_succ]
  refine wpAnyH_take (i := 22) (oi := ?o23) (v := ?v23) ?hi23 (by kernel_rfl) (by kernel_rfl) (by kernel_rfl) ?hQ23 (Or.inl ⟨?hg23, ?hy23⟩) (by assumption) ?rest23
  case hi23 => (simp only [List.getElem?_toArray, List.getElem?_cons_zero, List.getElem?_cons_succ]; exact rfl)
  case hQ23 => exact fun _ _ _ h => h
  case hg23 => rfl
  case hy23 => (intro w' hSw; (try dsimp only at hSw); go_simp; try with_reducible rfl)
  try simp only [Act.put, List.setIfInBounds_toArray, List.set_cons_zero, List.set_cons_succ]
  refine wpAnyH_take (i := 23) (oi := ?o24) (v := ?v24) ?hi24 (by kernel_rfl) (by kernel_rfl) (by kernel_rfl) ?hQ24 (Or.inl ⟨?hg24, ?hy24⟩) (by assumption) ?rest24
  case hi24 => (simp only [List.getElem?_toArray, List.getElem?_cons_zero, List.getElem?_cons_succ]; exact rfl)
  case hQ24 => exact fun _ _ _ h => h
  case hg24 => rfl
  case hy24 => (intro w' hSw; (try dsimp only at hSw); go_simp; try with_reducible rfl)
  try simp only [Act.put, List.setIfInBounds_toArray, List.set_cons_zero, List.set_cons_succ]
  refine wpAnyH_take (i := 24) (oi := ?o25) (v := ?v25) ?hi25 (by kernel_rfl) (by kernel_rfl) (by kernel_rfl) ?hQ25 (Or.inl ⟨?hg25, ?hy25⟩) (by assumption) ?rest25
  case hi25 => (simp only [List.getElem?_toArray, List.getElem?_cons_zero, List.getElem?_cons_succ]; exact rfl)
  case hQ25 => exact fun _ _ _ h => h
  case hg25 => rfl
  case hy25 => (intro w' hSw; (try dsimp only at hSw); go_simp; try with_reducible rfl)
  try simp only [Act.put, List.setIfInBounds_toArray, List.set_cons_zero, List.set_cons_succ]
  refine wpAnyH_take (i := 25) (oi := ?o26) (v := ?v26) ?hi26 (by kernel_rfl) (by kernel_rfl) (by kernel_rfl) ?hQ26 (Or.inl ⟨?hg26, ?hy26⟩) (by assumption) ?rest26
  case hi26 => (simp only [List.getElem?_toArray, List.getElem?_cons_zero, List.getElem?_cons_succ]; exact rfl)
  case hQ26 => exact fun _ _ _ h => h
  case hg26 => rfl
  case hy26 => (intro w' hSw; (try dsimp only at hSw); go_simp; try with_reducible rfl)
  try simp only [Act.put, List.setIfInBounds_toArray, List.set_cons_zero, List.set_cons_succ]
  refine wpAnyH_take (i := 26) (oi := ?o27) (v := ?v27) ?hi27 (by kernel_rfl) (by kernel_rfl) (by kernel_rfl) ?hQ27 (Or.inl ⟨?hg27, ?hy27⟩) (by assumption) ?rest27
  case hi27 => (simp only [List.getElem?_toArray, List.getElem?_cons_zero, List.getElem?_cons_succ]; exact rfl)
  case hQ27 => exact fun _ _ _ h => h
  case hg27 => rfl
  case hy27 => (intro w' hSw; (try dsimp only at hSw); go_simp; try with_reducible rfl)
  try simp only [Act.put, List.setIfInBounds_toArray, List.set_cons_zero, List.set_cons_succ]
  refine wpAnyH_take (i := 27) (oi := ?o28) (v := ?v28) ?hi28 (by kernel_rfl) (by kernel_rfl) (by kernel_rfl) ?hQ28 (Or.inl ⟨?hg28, ?hy28⟩) (by assumption) ?rest28
  case hi28 => (simp only [List.getElem?_toArray, List.getElem?_cons_zero, List.getElem?_cons_succ]; exact rfl)
  case hQ28 => exact fun _ _ _ h => h
  case hg28 => rfl
  case hy28 => (intro w' hSw; (try dsimp only at hSw); go_simp; try with_reducible rfl)
  try simp only [Act.put, List.setIfInBounds_toArray, List.set_cons_zero, List.set_cons_succ]
  refine wpAnyH_take (i := 28) (oi := ?o29) (v := ?v29) ?hi29 (by kernel_rfl) (by kernel_rfl) (by kernel_rfl) ?hQ29 (Or.inl ⟨?hg29, ?hy29⟩) (by assumption) ?rest29
  case hi29 => (simp only [List.getElem?_toArray, List.getElem?_cons_zero, List.getElem?_cons_succ]; exact rfl)
  case hQ29 => exact fun _ _ _ h => h
  case hg29 => rfl
  case hy29 => (intro w' hSw; (try dsimp only at hSw); go_simp; try with_reducible rfl)
  try simp only [Act.put, List.setIfInBounds_toArray, List.set_cons_zero, List.set_cons_succ]
  refine wpAnyH_take (i := 29) (oi := ?o30) (v := ?v30) ?hi30 (by kernel_rfl) (by kernel_rfl) (by kernel_rfl) ?hQ30 (Or.inl ⟨?hg30, ?hy30⟩) (by assumption) ?rest30
  case hi30 => (simp only [List.getElem?_toArray, List.getElem?_cons_zero, List.getElem?_cons_succ]; exact rfl)
  case hQ30 => exact fun _ _ _ h => h
  case hg30 => rfl
  case hy30 => (intro w' hSw; (try dsimp only at hSw); go_simp; try with_reducible rfl)
  try simp only [Act.put, List.setIfInBounds_toArray, List.set_cons_zero, List.set_cons_succ]
  refine wpAnyH_take (i := 30) (oi := ?o31) (v := ?v31) ?hi31 (by kernel_rfl) (by kernel_rfl) (by kernel_rfl) ?hQ31 (Or.inl ⟨?hg31, ?hy31⟩) (by assumption) ?rest31
  case hi31 => (simp only [List.getElem?_toArray, List.getElem?_cons_zero, List.getElem?_cons_succ]; exact rfl)
  case hQ31 => exact fun _ _ _ h => h
  case hg31 => rfl
  case hy31 => (intro w' hSw; (try dsimp only at hSw); go_simp; try with_reducible rfl)
  try simp only [Act.put, List.setIfInBounds_toArray, List.set_cons_zero, List.set_cons_succ]
  refine wpAnyH_take (i := 32) (oi := ?o32) (v := ?v32) ?hi32 (by kernel_rfl) (by kernel_rfl) (by kernel_rfl) ?hQ32 (Or.inl ⟨?hg32, ?hy32⟩) (by assumption) ?rest32
  case hi32 => (simp only [List.getElem?_toArray, List.getElem?_cons_zero, List.getElem?_cons_succ]; exact rfl)
  case hQ32 => exact fun _ _ _ h => h
  case hg32 => rfl
  case hy32 => (intro w' hSw; (try dsimp only at hSw); go_simp; try with_reducible rfl)
  try simp only [Act.put, List.setIfInBounds_toArray, List.set_cons_zero, List.set_cons_succ]
  refine wpAnyH_take (i := 33) (oi := ?o33) (v := ?v33) ?hi33 (by kernel_rfl) (by kernel_rfl) (by kernel_rfl) ?hQ33 (Or.inl ⟨?hg33, ?hy33⟩) (by assumption) ?rest33
  case hi33 => (simp only [List.getElem?_toArray, List.getElem?_cons_zero, List.getElem?_cons_succ]; exact rfl)
  case hQ33 => exact fun _ _ _ h => h
  case hg33 => rfl
  case hy33 => (intro w' hSw; (try dsimp only at hSw); go_simp; try with_reducible rfl)
  try simp only [Act.put, List.setIfInBounds_toArray, List.set_cons_zero, List.set_cons_succ]
  refine wpAnyH_ready (rs := [31]) (by kernel_rfl) (by simp) ?_
  refine AllReadyH.cons (o := ?o34) ?hi34 (fun K hK => ?_) AllReadyH.nil
  case hi34 => (simp only [List.getElem?_toArray, List.getElem?_cons_zero, List.getElem?_cons_succ]; exact rfl)
  (go_simp; go_at_call 14; (with_reducible refine (K7.out _ FB.out).mono ?_); rintro e z10 ⟨rfl, b10⟩; try dsimp only)
  have FB : Hid (Below W4.heap.size W4 z10) := Lib.hid (FB.out.trans (b10.out.mono FB.out.size))
  have Z1 : Hid (Zs z10 z10.heap.size Q1 oL) := Lib.hid (Z1.out.on b10.out)
  have Z2 : Hid (Zs z10 z10.heap.size Q2 oL) := Lib.hid (Z2.out.on b10.out)
  have Z3 : Hid (Zs z10 z10.heap.size Q3 dL) := Lib.hid (Z3.out.on b10.out)
  have Z4 : Hid (Zs z10 z10.heap.size Q4 dL) := Lib.hid (Z4.out.on b10.out)
  refine hK.out _ _ ?_ (fun hHeld => ?_)
  · exact SM.out _ FB.out
  clear hK K
  try simp only [Act.put, List.setIfInBounds_toArray, List.set_cons_zero, List.set_cons_succ]
  clear b10
  refine wpAnyH_ready (rs := [34]) (by kernel_rfl) (by simp) ?_
  refine AllReadyH.cons (o := ?o35) ?hi35 (fun K hK => ?_) AllReadyH.nil
  case hi35 => (simp only [List.getElem?_toArray, List.getElem?_cons_zero, List.getElem?_cons_succ]; exact rfl)
  (go_simp; go_at_call 19; (with_reducible refine (K8.out _ FB.out).mono ?_); rintro e z11 ⟨rfl, b11⟩; try dsimp only)
  have FB : Hid (Below W4.heap.size W4 z11) := Lib.hid (FB.out.trans (b11.out.mono FB.out.size))
  have Z1 : Hid (Zs z11 z11.heap.size Q1 oL) := Lib.hid (Z1.out.on b11.out)
  have Z2 : Hid (Zs z11 z11.heap.size Q2 oL) := Lib.hid (Z2.out.on b11.out)
  have Z3 : Hid (Zs z11 z11.heap.size Q3 dL) := Lib.hid (Z3.out.on b11.out)
  have Z4 : Hid (Zs z11 z11.heap.size Q4 dL) := Lib.hid (Z4.out.on b11.out)
  refine hK.out _ _ ?_ (fun hHeld => ?_)
  · exact SM.out _ FB.out
  clear hK K
  try simp only [Act.put, List.setIfInBounds_toArray, List.set_cons_zero, List.set_cons_succ]
  clear b11
  refine wpAnyH_take (i := 35) (oi := ?o36) (v := ?v36) ?hi36 (by kernel_rfl) (by kernel_rfl) (by kernel_rfl) ?hQ36 (Or.inl ⟨?hg36, ?hy36⟩) (by assumption) ?rest36
  case hi36 => (simp only [List.getElem?_toArray, List.getElem?_cons_zero, List.getElem?_cons_succ]; exact rfl)
  case hQ36 => exact fun _ _ _ h => h
  case hg36 => rfl
  case hy36 => (intro w' hSw; (try dsimp only at hSw); go_simp; try with_reducible rfl)
  try simp only [Act.put, List.setIfInBounds_toArray, List.set_cons_zero, List.set_cons_succ]
  refine wpAnyH_take (i := 36) (oi := ?o37) (v := ?v37) ?hi37 (by kernel_rfl) (by kernel_rfl) (by kernel_rfl) ?hQ37 (Or.inl ⟨?hg37, ?hy37⟩) (by assumption) ?rest37
  case hi37 => (simp only [List.getElem?_toArray, List.getElem?_cons_zero, List.getElem?_cons_succ]; exact rfl)
  case hQ37 => exact fun _ _ _ h => h
  case hg37 => rfl
  case hy37 => (intro w' hSw; (try dsimp only at hSw); go_simp; try with_reducible rfl)
  try simp only [Act.put, List.setIfInBounds_toArray, List.set_cons_zero, List.set_cons_succ]
  refine wpAnyH_take (i := 37) (oi := ?o38) (v := ?v38) ?hi38 (by kernel_rfl) (by kernel_rfl) (by kernel_rfl) ?hQ38 (Or.inl ⟨?hg38, ?hy38⟩) (by assumption) ?rest38
  case hi38 => (simp only [List.getElem?_toArray, List.getElem?_cons_zero, List.getElem?_cons_succ]; exact rfl)
  case hQ38 => exact fun _ _ _ h => h
  case hg38 => rfl
  case hy38 => (intro w' hSw; (try dsimp only at hSw); go_simp; try with_reducible rfl)
  try simp only [Act.put, List.setIfInBounds_toArray, List.set_cons_zero, List.set_cons_succ]
  refine wpAnyH_take (i := 38) (oi := ?o39) (v := ?v39) ?hi39 (by kernel_rfl) (by kernel_rfl) (by kernel_rfl) ?hQ39 (Or.inl ⟨?hg39, ?hy39⟩) (by assumption) ?rest39
  case hi39 => (simp only [List.getElem?_toArray, List.getElem?_cons_zero, List.getElem?_cons_succ]; exact rfl)
  case hQ39 => exact fun _ _ _ h => h
  case hg39 => rfl
  case hy39 => (intro w' hSw; (try dsimp only at hSw); go_simp; try with_reducible rfl)
  try simp only [Act.put, List.setIfInBounds_toArray, List.set_cons_zero, List.set_cons_succ]
  refine wpAnyH_take (i := 40) (oi := ?o40) (v := ?v40) ?hi40 (by kernel_rfl) (by kernel_rfl) (by kernel_rfl) ?hQ40 (Or.inl ⟨?hg40, ?hy40⟩) (by assumption) ?rest40
  case hi40 => (simp only [List.getElem?_toArray, List.getElem?_cons_zero, List.getElem?_cons_succ]; exact rfl)
  case hQ40 => exact fun _ _ _ h => h
  case hg40 => rfl
  case hy40 => (intro w' hSw; (try dsimp only at hSw); go_simp; try with_reducible rfl)
  try simp only [Act.put, List.setIfInBounds_toArray, List.set_cons_zero, List.set_cons_succ]
  refine wpAnyH_ready (rs := [39]) (by kernel_rfl) (by simp) ?_
  refine AllReadyH.cons (o := ?o41) ?hi41 (fun K hK => ?_) AllReadyH.nil
  case hi41 => (simp only [List.getElem?_toArray, List.getElem?_cons_zero, List.getElem?_cons_succ]; exact rfl)
  (go_simp; go_at_call 13; (with_reducible refine (K9.out _ FB.out).mono ?_); rintro e z12 ⟨rfl, b12⟩; try dsimp only)
  have FB : Hid (Below W4.heap.size W4 z12) := Lib.hid (FB.out.trans (b12.out.mono FB.out.size))
  have Z1 : Hid (Zs z12 z12.heap.size Q1 oL) := Lib.hid (Z1.out.on b12.out)
  have Z2 : Hid (Zs z12 z12.heap.size Q2 oL) := Lib.hid (Z2.out.on b12.out)
  have Z3 : Hid (Zs z12 z12.heap.size Q3 dL) := Lib.hid (Z3.out.on b12.out)
  have Z4 : Hid (Zs z12 z12.heap.size Q4 dL) := Lib.hid (Z4.out.on b12.out)
  refine hK.out _ _ ?_ (fun hHeld => ?_)
  · exact SM.out _ FB.out
  clear hK K
  try simp only [Act.put, List.setIfInBounds_toArray, List.set_cons_zero, List.set_cons_succ]
  clear b12
  refine wpAnyH_ready (rs := [41]) (by kernel_rfl) (by simp) ?_
  refine AllReadyH.cons (o := ?o42) ?hi42 (fun K hK => ?_) AllReadyH.nil
  case hi42 => (simp only [List.getElem?_toArray, List.getElem?_cons_zero, List.getElem?_cons_succ]; exact rfl)
  (go_simp; go_at_call 20; (with_reducible refine (K10.out _ FB.out).mono ?_); rintro e z13 ⟨rfl, b13⟩; try dsimp only)
  have FB : Hid (Below W4.heap.size W4 z13) := Lib.hid (FB.out.trans (b13.out.mono FB.out.size))
  have Z1 : Hid (Zs z13 z13.heap.size Q1 oL) := Lib.hid (Z1.out.on b13.out)
  have Z2 : Hid (Zs z13 z13.heap.size Q2 oL) := Lib.hid (Z2.out.on b13.out)
  have Z3 : Hid (Zs z13 z13.heap.size Q3 dL) := Lib.hid (Z3.out.on b13.out)
  have Z4 : Hid (Zs z13 z13.heap.size Q4 dL) := Lib.hid (Z4.out.on b13.out)
  refine hK.out _ _ ?_ (fun hHeld => ?_)
  · exact SM.out _ FB.out
  clear hK K
  try simp only [Act.put, List.setIfInBounds_toArray, List.set_cons_zero, List.set_cons_succ]
  clear b13
  refine wpAnyH_take (i := 42) (oi := ?o43) (v := ?v43) ?hi43 (by kernel_rfl) (by kernel_rfl) (by kernel_rfl) ?hQ43 (Or.inl ⟨?hg43, ?hy43⟩) (by assumption) ?rest43
  case hi43 => (simp only [List.getElem?_toArray, List.getElem?_cons_zero, List.getElem?_cons_succ]; exact rfl)
  case hQ43 => exact fun _ _ _ h => h
  case hg43 => rfl
  case hy43 => (intro w' hSw; (try dsimp only at hSw); go_simp; try with_reducible rfl)
  try simp only [Act.put, List.setIfInBounds_toArray, List.set_cons_zero, List.set_cons_succ]
  refine wpAnyH_take (i := 43) (oi := ?o44) (v := ?v44) ?hi44 (by kernel_rfl) (by kernel_rfl) (by kernel_rfl) ?hQ44 (Or.inl ⟨?hg44, ?hy44⟩) (by assumption) ?rest44
  case hi44 => (simp only [List.getElem?_toArray, List.getElem?_cons_zero, List.getElem?_cons_succ]; exact rfl)
  case hQ44 => exact fun _ _ _ h => h
  case hg44 => rfl
  case hy44 => (intro w' hSw; (try dsimp only at hSw); go_simp; try with_reducible rfl)
  try simp only [Act.put, List.setIfInBounds_toArray, List.set_cons_zero, List.set_cons_succ]
  refine wpAnyH_take (i := 44) (oi := ?o45) (v := ?v45) ?hi45 (by kernel_rfl) (by kernel_rfl) (by kernel_rfl) ?hQ45 (Or.inl ⟨?hg45, ?hy45⟩) (by assumption) ?rest45
  case hi45 => (simp only [List.getElem?_toArray, List.getElem?_cons_zero, List.getElem?_cons_succ]; exact rfl)
  case hQ45 => exact fun _ _ _ h => h
  case hg45 => rfl
  case hy45 => (intro w' hSw; (try dsimp only at hSw); go_simp; try with_reducible rfl)
  try simp only [Act.put, List.setIfInBounds_toArray, List.set_cons_zero, List.set_cons_succ]
  refine wpAnyH_done (by kernel_rfl) ?_ _
  go_wp2
  go_ret
  exact ⟨rfl, Lib.hid (B4.out.trans (FB.out.mono B4.out.size))⟩
end Go.Proofs.Ytgeefkfolejbnaa
