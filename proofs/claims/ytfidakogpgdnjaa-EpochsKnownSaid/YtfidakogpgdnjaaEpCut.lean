/-
  Package epochs: Cut at every argument.
-/
import Derived.Test.YtfidakogpgdnjaaEpAt
namespace Go.Proofs.Ytfidakogpgdnjaa
open Go.RowKit
def TabPost (w : World) (L : List Int) (x : Int) (b : Bool) (e : Ending) (w' : World) : Prop :=
  ∃ A cap, e = .returned (.tuple #[.agg #[.slice A L.length cap, .int .i64 x], .bool b]) ∧ Hid (OwnS w' w.heap.size A cap L) ∧ Hid (Below w.heap.size w w')
theorem TabPost.mk {w w' : World} {L : List Int} {x : Int} {b : Bool} {A : Option Addr} {cap : Nat} {L' : List Int} {x' : Int} {b' : Bool} (h1 : L' = L) (h2 : x' = x) (h3 : b' = b) (h4 : OwnS w' w.heap.size A cap L') (h5 : Below w.heap.size w w') :
    TabPost w L x b (.returned (.tuple #[.agg #[.slice A L'.length cap, .int .i64 x'], .bool b'])) w' := by
  subst h1 h2 h3; exact ⟨A, cap, rfl, Lib.hid h4, Lib.hid h5⟩
theorem inCut_cases (l : List Int) (x o : Int) : Ep.inCut l x o = (Ep.good l x && (decide (Ep.startV l x 0 ≤ o) && decide (o ≤ x))) := rfl
set_option maxHeartbeats 4000000 in
theorem cut_any (A : Option Addr) (l : List Int) (cap : Nat) (x o : Int) (ho : -9223372036854775808 ≤ o) (ho1 : o ≤ 9223372036854775807) (hl : l.length ≤ 1073741824) (hcap : l.length ≤ cap) (w : World) (h : Sts w w.heap.size A l) :
    Calls Try.prog 11 #[.agg #[.slice A l.length cap, .int .i64 x], .int .i64 o] w (TabPost w (Ep.cutL l x o) (Ep.cutE l x o) (Ep.inCut l x o)) := by
  have GD : Hid (∀ W, Below w.heap.size w W → Calls Try.prog 13 #[.agg #[.slice A l.length cap, .int .i64 x]] W (BoolB W (Ep.good l x))) := Lib.hid fun W hW => good_any A l cap x (by omega) W (h.on hW)
  have ST : Hid (∀ W, Below w.heap.size w W → Calls Try.prog 20 #[.agg #[.slice A l.length cap, .int .i64 x], .int .i64 0] W (IntB W (Ep.startV l x 0))) := Lib.hid fun W hW => start_any A l cap x 0 (by omega) W (h.on hW)
  have BE : Hid (∀ W, Below w.heap.size w W → Ep.good l x = true → Calls Try.prog 21 #[.slice A l.length cap, .int .i64 o] W (IntB W (Ep.below l o : Nat))) := Lib.hid fun W hW hg => below_any A l cap o hl W (h.on hW) ((Ep.good_iff _ _).1 hg).asc
  have hkl := Ep.below_le l o
  have etl : (l.take (Ep.below l o)).length = Ep.below l o := by rw [List.length_take]; omega
  have CP : Hid (∀ W, Below w.heap.size w W → Calls Try.prog 22 #[.slice A (Ep.below l o) cap] W fun e w' => ∃ A' cap', e = .returned (.slice A' (Ep.below l o) cap') ∧ Hid (OwnS w' W.heap.size A' cap' (l.take (Ep.below l o))) ∧ Hid (GrewS W.heap.size W w')) := Lib.hid fun W hW => by
    have := copied_anyS A (l.take (Ep.below l o)) cap (by omega) W ((h.on hW).head _)
    rw [etl] at this
    exact this
  have hs : ∀ W, (Instr.slice 23 (.slice A l.length cap) none (some (.int .i64 (Ep.below l o : Nat))) none).run Try.prog W = .ok (.slice A (Ep.below l o) cap) W := fun W => slice_toS A l.length cap _ (by omega) .i64 W
  have NO : Hid (Ep.inCut l x o = false → Ep.cutL l x o = [] ∧ Ep.cutE l x o = 0) := Lib.hid fun hh => by unfold Ep.cutL Ep.cutE; rw [if_neg (by rw [hh]; decide), if_neg (by rw [hh]; decide)]; exact ⟨rfl, rfl⟩
  have YES : Hid (Ep.inCut l x o = true → Ep.cutL l x o = l.take (Ep.below l o) ∧ Ep.cutE l x o = o) := Lib.hid fun hh => by unfold Ep.cutL Ep.cutE; rw [if_pos hh, if_pos hh]; exact ⟨rfl, rfl⟩
  have IA := Lib.hid (inCut_cases l x o)
  obtain ⟨n, hn⟩ : ∃ n, n = l.length := ⟨_, rfl⟩
  rw [← hn] at GD ST BE hs ⊢
  have ETL := Lib.hid etl
  clear h hn etl hkl hcap hl
  generalize Ep.below l o = k at *
  generalize Ep.startV l x 0 = st at *
  obtain ⟨W1, hW1⟩ : ∃ W1, W1 = (w.alloc (.cells #[.slice A n cap, .int .i64 x] 25)).alloc (.cells #[.slice none 0 0, .int .i64 0] 25) := ⟨_, rfl⟩
  have B1 : Hid (Below w.heap.size w W1) := Lib.hid (by rw [hW1]; exact ((Below.refl _ _).alloc (Nat.le_refl _) _).alloc (by simp) _)
  have Z1 : Hid (W1.heap.size = w.heap.size + 1 + 1) := Lib.hid (by rw [hW1]; simp)
  have P0 : Hid (W1.heap[w.heap.size]? = some (.cells #[.slice A n cap, .int .i64 x] 25 (0, 0))) := Lib.hid (by rw [hW1, Below.heap_alloc _ _ _ (by simp)]; exact heap_alloc_new ..)
  have R0 : Hid (W1.heap[w.heap.size + 1]? = some (.cells #[.slice none 0 0, .int .i64 0] 25 (0, 0))) := Lib.hid (by rw [hW1]; have := heap_alloc_new (w.alloc (.cells #[.slice A n cap, .int .i64 x] 25)) (.cells #[.slice none 0 0, .int .i64 0] 25); rw [World.size_alloc] at this; exact this)
  rcases hg : Ep.good l x with _ | _
  · rw [hg] at GD IA
    have E : Hid (Ep.inCut l x o = false) := Lib.hid (by rw [IA.out]; rfl)
    have E2 := Lib.hid (NO.out E.out)
    clear hg NO YES IA hs
    go_enter Try.func11, Try.ntmps11
    go_wp2_with fail
    rw [← hW1]
    obtain ⟨⟨x0, x1⟩, -⟩ := ob2 P0.out
    clear hW1
    go_wp2_with fail
    (with_reducible refine (GD.out _ B1.out).mono ?_); rintro e w2 ⟨rfl, b2⟩
    have R2 : Hid (w2.heap[w.heap.size + 1]? = some (.cells #[.slice none 0 0, .int .i64 0] 25 (0, 0))) := Lib.hid ((b2.out.block _ (by rw [Z1.out]; omega)).trans R0.out)
    have B2 := Lib.hid (B1.out.trans (b2.out.mono B1.out.size))
    obtain ⟨⟨r0, r1⟩, r2, r3⟩ := ob2 R2.out
    clear b2
    go_wp2
    exact bodyPost_ret (v := .tuple #[.agg #[.slice none 0 0, .int .i64 0], .bool false]) (by simp [results, Try.results11, go_sem, r0, r1]) rfl
      (TabPost.mk (L' := []) E2.out.1.symm E2.out.2.symm E.out.symm (OwnS.none_ _ _) ((B2.out.setCell (p := ⟨w.heap.size + 1, 0, none⟩) (by simp) _).setCell (p := ⟨w.heap.size + 1, 1, none⟩) (by simp) _))
  · rw [hg, Bool.true_and] at IA
    rw [hg] at GD
    have BE1 : Hid (∀ W, Below w.heap.size w W → Calls Try.prog 21 #[.slice A n cap, .int .i64 o] W (IntB W (k : Nat))) := Lib.hid fun W hW => BE.out W hW hg
    clear hg BE
    by_cases h1 : st ≤ o
    · by_cases h2 : o ≤ x
      · have E : Hid (Ep.inCut l x o = true) := Lib.hid (by rw [IA.out, decide_eq_true h1, decide_eq_true h2]; rfl)
        have E2 := Lib.hid (YES.out E.out)
        clear NO YES IA
        go_enter Try.func11, Try.ntmps11
        go_wp2_with fail
        rw [← hW1]
        obtain ⟨⟨x0, x1⟩, -⟩ := ob2 P0.out
        clear hW1
        go_wp2_with fail
        (with_reducible refine (GD.out _ B1.out).mono ?_); rintro e w2 ⟨rfl, b2⟩
        have P2 : Hid (w2.heap[w.heap.size]? = some (.cells #[.slice A n cap, .int .i64 x] 25 (0, 0))) := Lib.hid ((b2.out.block _ (by rw [Z1.out]; omega)).trans P0.out)
        have R2 : Hid (w2.heap[w.heap.size + 1]? = some (.cells #[.slice none 0 0, .int .i64 0] 25 (0, 0))) := Lib.hid ((b2.out.block _ (by rw [Z1.out]; omega)).trans R0.out)
        have B2 := Lib.hid (B1.out.trans (b2.out.mono B1.out.size))
        have Z2 : Hid (w.heap.size + 1 < w2.heap.size) := Lib.hid (lt_of_block R2.out)
        obtain ⟨⟨y0, y1⟩, -⟩ := ob2 P2.out
        clear b2
        go_wp2_with fail
        (with_reducible refine (ST.out _ B2.out).mono ?_); rintro e w3 ⟨rfl, b3⟩
        have P3 : Hid (w3.heap[w.heap.size]? = some (.cells #[.slice A n cap, .int .i64 x] 25 (0, 0))) := Lib.hid ((b3.out.block _ (by have := Z2.out; omega)).trans P2.out)
        have R3 : Hid (w3.heap[w.heap.size + 1]? = some (.cells #[.slice none 0 0, .int .i64 0] 25 (0, 0))) := Lib.hid ((b3.out.block _ Z2.out).trans R2.out)
        have B3 := Lib.hid (B2.out.trans (b3.out.mono B2.out.size))
        have Z3 : Hid (w.heap.size + 1 < w3.heap.size) := Lib.hid (lt_of_block R3.out)
        obtain ⟨⟨v0, v1⟩, -⟩ := ob2 P3.out
        clear b3
        go_wp2_with fail
        have S0 : Hid (w3.drew.cell? ⟨w.heap.size, 0, none⟩ = some (.slice A n cap)) := Lib.hid v0
        go_region_held3 (fun w' => w'.cell? ⟨w.heap.size, 0, none⟩ = some (.slice A n cap)) ((first | exact S0.out | exact S4.out | exact S5.out | exact S6.out _ _ | go_keep))
          (first
            | (go_simp; go_at_call 22; (with_reducible refine (CP.out w4 B4.out).mono ?_); rintro e w5 ⟨A5, c5, rfl, o5, g5⟩; have S5 : Hid (w5.cell? ⟨w.heap.size, 0, none⟩ = some (.slice A n cap)) := Lib.hid ((g5.out.below.cell (p := ⟨w.heap.size, 0, none⟩) (Nat.lt_trans (Nat.lt_succ_self _) Z4.out)).trans S4.out); have R5 : Hid (w5.heap[w.heap.size + 1]? = some (.cells #[.slice none 0 0, .int .i64 0] 25 (0, 0))) := Lib.hid ((g5.out.below.block _ Z4.out).trans ((b4.out.block _ Z3.out).trans R3.out)); have S6 : Hid (∀ a b, ((w5.setCell ⟨w.heap.size + 1, 0, none⟩ a).setCell ⟨w.heap.size + 1, 1, none⟩ b).cell? ⟨w.heap.size, 0, none⟩ = some (.slice A n cap)) := Lib.hid (fun a b => (World.cell?_of_block ((Below.heap_setCell _ _ _ _ (by simp)).trans (Below.heap_setCell _ _ _ _ (by simp)))).trans S5.out); obtain ⟨⟨r0, r1⟩, r2, r3⟩ := ob2 R5.out)
            | (go_simp; go_at_call 21; (with_reducible refine (BE1.out _ (B3.out.drew)).mono ?_); rintro e w4 ⟨rfl, b4⟩; have B4 : Hid (Below w.heap.size w w4) := Lib.hid (B3.out.drew.trans (b4.out.mono B3.out.size)); have Z4 : Hid (w.heap.size + 1 < w4.heap.size) := Lib.hid (Nat.lt_of_lt_of_le Z3.out b4.out.size); have S4 : Hid (w4.cell? ⟨w.heap.size, 0, none⟩ = some (.slice A n cap)) := Lib.hid ((b4.out.cell (p := ⟨w.heap.size, 0, none⟩) (Nat.lt_trans (Nat.lt_succ_self _) Z3.out)).trans S0.out)))
        have OW : Hid (OwnS ((w5.setCell ⟨w.heap.size + 1, 0, none⟩ (.slice A5 k c5)).setCell ⟨w.heap.size + 1, 1, none⟩ (.int .i64 o)) w.heap.size A5 c5 (l.take k)) := Lib.hid ((o5.out.low B4.out.size).set2 R5.out (by decide) _ _)
        have BL : Hid (Below w.heap.size w ((w5.setCell ⟨w.heap.size + 1, 0, none⟩ (.slice A5 k c5)).setCell ⟨w.heap.size + 1, 1, none⟩ (.int .i64 o))) := Lib.hid (((B4.out.trans (g5.out.below.mono B4.out.size)).setCell (p := ⟨w.heap.size + 1, 0, none⟩) (by simp) _).setCell (p := ⟨w.heap.size + 1, 1, none⟩) (by simp) _)
        go_wp2
        exact bodyPost_ret (v := .tuple #[.agg #[.slice A5 k c5, .int .i64 o], .bool true]) (by simp [results, Try.results11, go_sem, r0, r1]) rfl
          ⟨A5, c5, by rw [E2.out.1, E2.out.2, E.out, ETL.out], by rw [E2.out.1]; exact OW, BL⟩
      · have E : Hid (Ep.inCut l x o = false) := Lib.hid (by rw [IA.out, decide_eq_false h2, Bool.and_false])
        have E2 := Lib.hid (NO.out E.out)
        clear NO YES IA hs
        go_enter Try.func11, Try.ntmps11
        go_wp2_with fail
        rw [← hW1]
        obtain ⟨⟨x0, x1⟩, -⟩ := ob2 P0.out
        clear hW1
        go_wp2_with fail
        (with_reducible refine (GD.out _ B1.out).mono ?_); rintro e w2 ⟨rfl, b2⟩
        have P2 : Hid (w2.heap[w.heap.size]? = some (.cells #[.slice A n cap, .int .i64 x] 25 (0, 0))) := Lib.hid ((b2.out.block _ (by rw [Z1.out]; omega)).trans P0.out)
        have R2 : Hid (w2.heap[w.heap.size + 1]? = some (.cells #[.slice none 0 0, .int .i64 0] 25 (0, 0))) := Lib.hid ((b2.out.block _ (by rw [Z1.out]; omega)).trans R0.out)
        have B2 := Lib.hid (B1.out.trans (b2.out.mono B1.out.size))
        have Z2 : Hid (w.heap.size + 1 < w2.heap.size) := Lib.hid (lt_of_block R2.out)
        obtain ⟨⟨y0, y1⟩, -⟩ := ob2 P2.out
        clear b2
        go_wp2_with fail
        (with_reducible refine (ST.out _ B2.out).mono ?_); rintro e w3 ⟨rfl, b3⟩
        have P3 : Hid (w3.heap[w.heap.size]? = some (.cells #[.slice A n cap, .int .i64 x] 25 (0, 0))) := Lib.hid ((b3.out.block _ (by have := Z2.out; omega)).trans P2.out)
        have R3 : Hid (w3.heap[w.heap.size + 1]? = some (.cells #[.slice none 0 0, .int .i64 0] 25 (0, 0))) := Lib.hid ((b3.out.block _ Z2.out).trans R2.out)
        have B3 := Lib.hid (B2.out.trans (b3.out.mono B2.out.size))
        obtain ⟨⟨v0, v1⟩, -⟩ := ob2 P3.out
        obtain ⟨⟨r0, r1⟩, r2, r3⟩ := ob2 R3.out
        clear b3
        go_wp2
        exact bodyPost_ret (v := .tuple #[.agg #[.slice none 0 0, .int .i64 0], .bool false]) (by simp [results, Try.results11, go_sem, r0, r1]) rfl
          (TabPost.mk (L' := []) E2.out.1.symm E2.out.2.symm E.out.symm (OwnS.none_ _ _) ((B3.out.setCell (p := ⟨w.heap.size + 1, 0, none⟩) (by simp) _).setCell (p := ⟨w.heap.size + 1, 1, none⟩) (by simp) _))
    · have E : Hid (Ep.inCut l x o = false) := Lib.hid (by rw [IA.out, decide_eq_false h1, Bool.false_and])
      have E2 := Lib.hid (NO.out E.out)
      clear NO YES IA hs
      go_enter Try.func11, Try.ntmps11
      go_wp2_with fail
      rw [← hW1]
      obtain ⟨⟨x0, x1⟩, -⟩ := ob2 P0.out
      clear hW1
      go_wp2_with fail
      (with_reducible refine (GD.out _ B1.out).mono ?_); rintro e w2 ⟨rfl, b2⟩
      have P2 : Hid (w2.heap[w.heap.size]? = some (.cells #[.slice A n cap, .int .i64 x] 25 (0, 0))) := Lib.hid ((b2.out.block _ (by rw [Z1.out]; omega)).trans P0.out)
      have R2 : Hid (w2.heap[w.heap.size + 1]? = some (.cells #[.slice none 0 0, .int .i64 0] 25 (0, 0))) := Lib.hid ((b2.out.block _ (by rw [Z1.out]; omega)).trans R0.out)
      have B2 := Lib.hid (B1.out.trans (b2.out.mono B1.out.size))
      have Z2 : Hid (w.heap.size + 1 < w2.heap.size) := Lib.hid (lt_of_block R2.out)
      obtain ⟨⟨y0, y1⟩, -⟩ := ob2 P2.out
      clear b2
      go_wp2_with fail
      (with_reducible refine (ST.out _ B2.out).mono ?_); rintro e w3 ⟨rfl, b3⟩
      have P3 : Hid (w3.heap[w.heap.size]? = some (.cells #[.slice A n cap, .int .i64 x] 25 (0, 0))) := Lib.hid ((b3.out.block _ (by have := Z2.out; omega)).trans P2.out)
      have R3 : Hid (w3.heap[w.heap.size + 1]? = some (.cells #[.slice none 0 0, .int .i64 0] 25 (0, 0))) := Lib.hid ((b3.out.block _ Z2.out).trans R2.out)
      have B3 := Lib.hid (B2.out.trans (b3.out.mono B2.out.size))
      obtain ⟨⟨v0, v1⟩, -⟩ := ob2 P3.out
      obtain ⟨⟨r0, r1⟩, r2, r3⟩ := ob2 R3.out
      clear b3
      go_wp2
      exact bodyPost_ret (v := .tuple #[.agg #[.slice none 0 0, .int .i64 0], .bool false]) (by simp [results, Try.results11, go_sem, r0, r1]) rfl
        (TabPost.mk (L' := []) E2.out.1.symm E2.out.2.symm E.out.symm (OwnS.none_ _ _) ((B3.out.setCell (p := ⟨w.heap.size + 1, 0, none⟩) (by simp) _).setCell (p := ⟨w.heap.size + 1, 1, none⟩) (by simp) _))
end Go.Proofs.Ytfidakogpgdnjaa
