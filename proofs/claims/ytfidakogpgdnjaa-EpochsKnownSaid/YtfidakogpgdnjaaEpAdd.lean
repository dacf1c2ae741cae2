/-
  Package epochs: Add at every argument.
-/
import Derived.Test.YtfidakogpgdnjaaEpCut
namespace Go.Proofs.Ytfidakogpgdnjaa
open Go.RowKit
theorem inAdd_cases (l : List Int) (x s : Int) : Ep.inAdd l x s = (Ep.good l x && Ep.follow s l x) := rfl
set_option maxHeartbeats 4000000 in
theorem add_any (A : Option Addr) (l : List Int) (cap : Nat) (x s : Int) (s0 : 0 ≤ s) (s1 : s < 18446744073709551616) (hl : l.length ≤ 1000000000) (w : World) (h : Sts w w.heap.size A l) :
    Calls Try.prog 12 #[.agg #[.slice A l.length cap, .int .i64 x], .int .u64 s] w (TabPost w (Ep.addL l x s) (Ep.addE l x s) (Ep.inAdd l x s)) := by
  have GD : Hid (∀ W, Below w.heap.size w W → Calls Try.prog 13 #[.agg #[.slice A l.length cap, .int .i64 x]] W (BoolB W (Ep.good l x))) := Lib.hid fun W hW => good_any A l cap x (by omega) W (h.on hW)
  have FO : Hid (∀ W, Below w.heap.size w W → Calls Try.prog 17 #[.int .u64 s, .agg #[.slice A l.length cap, .int .i64 x]] W (BoolB W (Ep.follow s l x))) := Lib.hid fun W hW => follow_any s s0 s1 A l cap x (by omega) W (h.on hW)
  have CP : Hid (∀ W, Below w.heap.size w W → Calls Try.prog 22 #[.slice A l.length cap] W fun e w' => ∃ A' cap', e = .returned (.slice A' l.length cap') ∧ Hid (OwnS w' W.heap.size A' cap' l) ∧ Hid (GrewS W.heap.size W w')) := Lib.hid fun W hW => copied_anyS A l cap (by omega) W (h.on hW)
  have EX : Hid (0 ≤ x → x ≤ 17592186044416 → ∀ (A' : Option Addr) (c : Nat) (W : World), w.heap.size ≤ W.heap.size → OwnS W w.heap.size A' c l → Calls Try.prog 18 #[.agg #[.slice A' l.length c, .int .i64 x], .int .u64 s] W (ExtPost W w.heap.size l s x)) := Lib.hid fun x0 x1 A' c W hW ho => extend_any s s0 s1 w.heap.size A' l c x x0 x1 hl W hW ho
  have NO : Hid (Ep.inAdd l x s = false → Ep.addL l x s = [] ∧ Ep.addE l x s = 0) := Lib.hid fun hh => by unfold Ep.addL Ep.addE; rw [if_neg (by rw [hh]; decide), if_neg (by rw [hh]; decide)]; exact ⟨rfl, rfl⟩
  have YES : Hid (Ep.inAdd l x s = true → Ep.addL l x s = Ep.extL l s ∧ Ep.addE l x s = x + 1) := Lib.hid fun hh => by unfold Ep.addL Ep.addE; rw [if_pos hh, if_pos hh]; exact ⟨rfl, rfl⟩
  have HI : Hid (Ep.good l x = true → 0 ≤ x ∧ x ≤ 17592186044416) := Lib.hid fun hg => ⟨((Ep.good_iff _ _).1 hg).lo, ((Ep.good_iff _ _).1 hg).hi⟩
  have IA := Lib.hid (inAdd_cases l x s)
  obtain ⟨n, hn⟩ : ∃ n, n = l.length := ⟨_, rfl⟩
  rw [← hn] at GD FO CP EX ⊢
  clear h hn hl
  generalize Ep.follow s l x = fo at *
  obtain ⟨W1, hW1⟩ : ∃ W1, W1 = (w.alloc (.cells #[.slice A n cap, .int .i64 x] 25)).alloc (.cells #[.slice none 0 0, .int .i64 0] 25) := ⟨_, rfl⟩
  have B1 : Hid (Below w.heap.size w W1) := Lib.hid (by rw [hW1]; exact ((Below.refl _ _).alloc (Nat.le_refl _) _).alloc (by simp) _)
  have Z1 : Hid (W1.heap.size = w.heap.size + 1 + 1) := Lib.hid (by rw [hW1]; simp)
  have P0 : Hid (W1.heap[w.heap.size]? = some (.cells #[.slice A n cap, .int .i64 x] 25 (0, 0))) := Lib.hid (by rw [hW1, Below.heap_alloc _ _ _ (by simp)]; exact heap_alloc_new ..)
  have R0 : Hid (W1.heap[w.heap.size + 1]? = some (.cells #[.slice none 0 0, .int .i64 0] 25 (0, 0))) := Lib.hid (by rw [hW1]; have := heap_alloc_new (w.alloc (.cells #[.slice A n cap, .int .i64 x] 25)) (.cells #[.slice none 0 0, .int .i64 0] 25); rw [World.size_alloc] at this; exact this)
  rcases hg : Ep.good l x with _ | _
  · rw [hg] at GD IA
    have E : Hid (Ep.inAdd l x s = false) := Lib.hid (by rw [IA.out]; rfl)
    have E2 := Lib.hid (NO.out E.out)
    clear hg NO YES IA HI
    go_enter Try.func12, Try.ntmps12
    go_wp2_with fail
    rw [← hW1]
    obtain ⟨⟨x0, x1⟩, -⟩ := ob2 P0.out
    clear hW1
    go_wp2_with fail
    (with_reducible refine (GD.out _ B1.out).mono ?_); rintro e w2 ⟨rfl, b2⟩
    have R2 : Hid (w2.heap[w.heap.size + 1]? = some (.cells #[.slice none 0 0, .int .i64 0] 25 (0, 0))) := Lib.hid ((b2.out.block _ (by rw [Z1.out]; omega)).trans R0.out)
    have B2 := Lib.hid (B1.out.trans (b2.out.mono B1.out.size))
    obtain ⟨⟨r0, r1⟩, r2, r3⟩ := ob2 R2.out
    clear b2
    go_wp2
    exact bodyPost_ret (v := .tuple #[.agg #[.slice none 0 0, .int .i64 0], .bool false]) (by simp [results, Try.results12, go_sem, r0, r1]) rfl
      (TabPost.mk (L' := []) E2.out.1.symm E2.out.2.symm E.out.symm (OwnS.none_ _ _) ((B2.out.setCell (p := ⟨w.heap.size + 1, 0, none⟩) (by simp) _).setCell (p := ⟨w.heap.size + 1, 1, none⟩) (by simp) _))
  · rw [hg, Bool.true_and] at IA
    rw [hg] at GD
    have hx := HI.out hg
    have EX1 : Hid (∀ (A' : Option Addr) (c : Nat) (W : World), w.heap.size ≤ W.heap.size → OwnS W w.heap.size A' c l → Calls Try.prog 18 #[.agg #[.slice A' n c, .int .i64 x], .int .u64 s] W (ExtPost W w.heap.size l s x)) := Lib.hid (EX.out hx.1 hx.2)
    clear hg HI EX hx
    rcases fo with _ | _
    · have E2 := Lib.hid (NO.out IA.out)
      clear NO YES
      go_enter Try.func12, Try.ntmps12
      go_wp2_with fail
      rw [← hW1]
      obtain ⟨⟨x0, x1⟩, -⟩ := ob2 P0.out
      clear hW1
      go_wp2_with fail
      (with_reducible refine (GD.out _ B1.out).mono ?_); rintro e w2 ⟨rfl, b2⟩
      have P2 : Hid (w2.heap[w.heap.size]? = some (.cells #[.slice A n cap, .int .i64 x] 25 (0, 0))) := Lib.hid ((b2.out.block _ (by rw [Z1.out]; omega)).trans P0.out)
      have R2 : Hid (w2.heap[w.heap.size + 1]? = some (.cells #[.slice none 0 0, .int .i64 0] 25 (0, 0))) := Lib.hid ((b2.out.block _ (by rw [Z1.out]; omega)).trans R0.out)
      have B2 := Lib.hid (B1.out.trans (b2.out.mono B1.out.size))
      have Z2 : Hid (w.heap.size + 1 < w2.heap.size) := Lib.hid (lt_of_block R2.out)
      obtain ⟨⟨y0, y1⟩, -⟩ := ob2 P2.out
      clear b2
      go_wp2_with fail
      (with_reducible refine (FO.out _ B2.out).mono ?_); rintro e w3 ⟨rfl, b3⟩
      have R3 : Hid (w3.heap[w.heap.size + 1]? = some (.cells #[.slice none 0 0, .int .i64 0] 25 (0, 0))) := Lib.hid ((b3.out.block _ Z2.out).trans R2.out)
      have B3 := Lib.hid (B2.out.trans (b3.out.mono B2.out.size))
      obtain ⟨⟨r0, r1⟩, r2, r3⟩ := ob2 R3.out
      clear b3
      go_wp2
      exact bodyPost_ret (v := .tuple #[.agg #[.slice none 0 0, .int .i64 0], .bool false]) (by simp [results, Try.results12, go_sem, r0, r1]) rfl
        (TabPost.mk (L' := []) E2.out.1.symm E2.out.2.symm IA.out.symm (OwnS.none_ _ _) ((B3.out.setCell (p := ⟨w.heap.size + 1, 0, none⟩) (by simp) _).setCell (p := ⟨w.heap.size + 1, 1, none⟩) (by simp) _))
    · have E2 := Lib.hid (YES.out IA.out)
      clear NO YES
      go_enter Try.func12, Try.ntmps12
      go_wp2_with fail
      rw [← hW1]
      obtain ⟨⟨x0, x1⟩, -⟩ := ob2 P0.out
      clear hW1
      go_wp2_with fail
      (with_reducible refine (GD.out _ B1.out).mono ?_); rintro e w2 ⟨rfl, b2⟩
      have P2 : Hid (w2.heap[w.heap.size]? = some (.cells #[.slice A n cap, .int .i64 x] 25 (0, 0))) := Lib.hid ((b2.out.block _ (by rw [Z1.out]; omega)).trans P0.out)
      have R2 : Hid (w2.heap[w.heap.size + 1]? = some (.cells #[.slice none 0 0, .int .i64 0] 25 (0, 0))) := Lib.hid ((b2.out.block _ (by rw [Z1.out]; omega)).trans R0.out)
      have B2 := Lib.hid (B1.out.trans (b2.out.mono B1.out.size))
      have Z2 : Hid (w.heap.size + 1 < w2.heap.size) := Lib.hid (lt_of_block R2.out)
      obtain ⟨⟨y0, y1⟩, -⟩ := ob2 P2.out
      clear b2
      go_wp2_with fail
      (with_reducible refine (FO.out _ B2.out).mono ?_); rintro e w3 ⟨rfl, b3⟩
      have P3 : Hid (w3.heap[w.heap.size]? = some (.cells #[.slice A n cap, .int .i64 x] 25 (0, 0))) := Lib.hid ((b3.out.block _ (by have := Z2.out; omega)).trans P2.out)
      have R3 : Hid (w3.heap[w.heap.size + 1]? = some (.cells #[.slice none 0 0, .int .i64 0] 25 (0, 0))) := Lib.hid ((b3.out.block _ Z2.out).trans R2.out)
      have B3 := Lib.hid (B2.out.trans (b3.out.mono B2.out.size))
      have Z3 : Hid (w.heap.size + 1 < w3.heap.size) := Lib.hid (lt_of_block R3.out)
      have B3d : Hid (Below w.heap.size w w3.drew) := Lib.hid B3.out.drew
      clear b3
      go_wp2_with fail
      have S0 : Hid (w3.drew.cell? ⟨w.heap.size, 0, none⟩ = some (.slice A n cap) ∧ w3.drew.cell? ⟨w.heap.size, 1, none⟩ = some (.int .i64 x)) := Lib.hid (ob2 (w := w3) P3.out).1
      go_region_held3 (fun w' => w'.cell? ⟨w.heap.size, 0, none⟩ = some (.slice A n cap) ∧ w'.cell? ⟨w.heap.size, 1, none⟩ = some (.int .i64 x)) ((first | exact S0.out | exact S4.out | exact S5.out | exact S6.out _ _ | go_keep))
        (first
          | (go_simp; go_at_call 22; (with_reducible refine (CP.out _ B3d.out).mono ?_); rintro e w4 ⟨A4, c4, rfl, o4, g4⟩; have P4 : Hid (w4.heap[w.heap.size]? = some (.cells #[.slice A n cap, .int .i64 x] 25 (0, 0))) := Lib.hid (g4.out.obj _ _ _ _ P3.out (by decide)); have R4 : Hid (w4.heap[w.heap.size + 1]? = some (.cells #[.slice none 0 0, .int .i64 0] 25 (0, 0))) := Lib.hid (g4.out.obj _ _ _ _ R3.out (by decide)); have B4 : Hid (Below w.heap.size w w4) := Lib.hid (B3.out.drew.trans (g4.out.below.mono B3.out.size)); have O4 : Hid (OwnS w4 w.heap.size A4 c4 l) := Lib.hid (o4.out.low B3.out.size); have S4 : Hid (w4.cell? ⟨w.heap.size, 0, none⟩ = some (.slice A n cap) ∧ w4.cell? ⟨w.heap.size, 1, none⟩ = some (.int .i64 x)) := Lib.hid (ob2 P4.out).1)
          | (go_simp; go_at_call 18; (with_reducible refine (EX1.out _ _ _ B4.out.size O4.out).mono ?_); rintro e w5 ⟨L, A5, c5, hL, rfl, o5, g5⟩; have P5 : Hid (w5.heap[w.heap.size]? = some (.cells #[.slice A n cap, .int .i64 x] 25 (0, 0))) := Lib.hid (g5.out.obj _ _ _ _ P4.out (by decide)); have R5 : Hid (w5.heap[w.heap.size + 1]? = some (.cells #[.slice none 0 0, .int .i64 0] 25 (0, 0))) := Lib.hid (g5.out.obj _ _ _ _ R4.out (by decide)); have S5 : Hid (w5.cell? ⟨w.heap.size, 0, none⟩ = some (.slice A n cap) ∧ w5.cell? ⟨w.heap.size, 1, none⟩ = some (.int .i64 x)) := Lib.hid (ob2 P5.out).1; have S6 : Hid (∀ a b, ((w5.setCell ⟨w.heap.size + 1, 0, none⟩ a).setCell ⟨w.heap.size + 1, 1, none⟩ b).cell? ⟨w.heap.size, 0, none⟩ = some (.slice A n cap) ∧ ((w5.setCell ⟨w.heap.size + 1, 0, none⟩ a).setCell ⟨w.heap.size + 1, 1, none⟩ b).cell? ⟨w.heap.size, 1, none⟩ = some (.int .i64 x)) := Lib.hid (fun a b => ⟨(World.cell?_of_block ((Below.heap_setCell _ _ _ _ (by simp)).trans (Below.heap_setCell _ _ _ _ (by simp)))).trans S5.out.1, (World.cell?_of_block ((Below.heap_setCell _ _ _ _ (by simp)).trans (Below.heap_setCell _ _ _ _ (by simp)))).trans S5.out.2⟩); obtain ⟨⟨r0, r1⟩, r2, r3⟩ := ob2 R5.out))
      have OW : Hid (OwnS ((w5.setCell ⟨w.heap.size + 1, 0, none⟩ (.slice A5 L.length c5)).setCell ⟨w.heap.size + 1, 1, none⟩ (.int .i64 (x + 1))) w.heap.size A5 c5 L) := Lib.hid (o5.out.set2 R5.out (by decide) _ _)
      have BL : Hid (Below w.heap.size w ((w5.setCell ⟨w.heap.size + 1, 0, none⟩ (.slice A5 L.length c5)).setCell ⟨w.heap.size + 1, 1, none⟩ (.int .i64 (x + 1)))) := Lib.hid (((B4.out.trans g5.out.below).setCell (p := ⟨w.heap.size + 1, 0, none⟩) (by simp) _).setCell (p := ⟨w.heap.size + 1, 1, none⟩) (by simp) _)
      go_wp2
      exact bodyPost_ret (v := .tuple #[.agg #[.slice A5 L.length c5, .int .i64 (x + 1)], .bool true]) (by simp [results, Try.results12, go_sem, r0, r1]) rfl
        (TabPost.mk (hL.out.trans E2.out.1.symm) E2.out.2.symm IA.out.symm OW.out BL.out)
end Go.Proofs.Ytfidakogpgdnjaa
