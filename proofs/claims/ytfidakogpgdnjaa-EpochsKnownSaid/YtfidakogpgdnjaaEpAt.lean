/-
  Package epochs: At, Cut, Add, Meet and Of at every argument.
-/
import Derived.Test.YtfidakogpgdnjaaEpBelow
import Derived.Test.YtfidakogpgdnjaaEpShared
namespace Go.Proofs.Ytfidakogpgdnjaa
open Go.RowKit
def AtPost (w : World) (n : Int) (b : Bool) (e : Ending) (w' : World) : Prop := e = .returned (.tuple #[.int .i64 n, .bool b]) ∧ Hid (Below w.heap.size w w')
theorem inAt_cases (l : List Int) (x o : Int) : Ep.inAt l x o = (Ep.good l x && (decide (Ep.startV l x 0 ≤ o) && decide (o < x))) := rfl
set_option maxHeartbeats 4000000 in
theorem at_any (A : Option Addr) (l : List Int) (cap : Nat) (x o : Int) (ho : -9223372036854775808 ≤ o) (ho1 : o ≤ 9223372036854775807) (hl : l.length ≤ 1073741824) (w : World) (h : Sts w w.heap.size A l) :
    Calls Try.prog 10 #[.agg #[.slice A l.length cap, .int .i64 x], .int .i64 o] w (AtPost w (Ep.atV l x o) (Ep.inAt l x o)) := by
  have GD : Hid (∀ W, Below w.heap.size w W → Calls Try.prog 13 #[.agg #[.slice A l.length cap, .int .i64 x]] W (BoolB W (Ep.good l x))) := Lib.hid fun W hW => good_any A l cap x (by omega) W (h.on hW)
  have ST : Hid (∀ W, Below w.heap.size w W → Calls Try.prog 20 #[.agg #[.slice A l.length cap, .int .i64 x], .int .i64 0] W (IntB W (Ep.startV l x 0))) := Lib.hid fun W hW => start_any A l cap x 0 (by omega) W (h.on hW)
  have BE : Hid (∀ W, Below w.heap.size w W → Ep.good l x = true → Calls Try.prog 21 #[.slice A l.length cap, .int .i64 (o + 1)] W (IntB W (Ep.below l (o + 1) : Nat))) := Lib.hid fun W hW hg => below_any A l cap (o + 1) hl W (h.on hW) ((Ep.good_iff _ _).1 hg).asc
  have H := Lib.hid h
  have HI : Hid (Ep.good l x = true → x ≤ 17592186044416) := Lib.hid fun hg => ((Ep.good_iff _ _).1 hg).hi
  have BP : Hid (Ep.inAt l x o = true → 1 ≤ Ep.below l (o + 1) ∧ Ep.below l (o + 1) ≤ l.length) := Lib.hid fun hg => Ep.below_pos hg
  have B1 : Hid (Below w.heap.size w (w.alloc (.cells #[.slice A l.length cap, .int .i64 x] 25))) := Lib.hid ((Below.refl _ _).alloc (Nat.le_refl _) _)
  have P0 : Hid ((w.alloc (.cells #[.slice A l.length cap, .int .i64 x] 25)).heap[w.heap.size]? = some (.cells #[.slice A l.length cap, .int .i64 x] 25 (0, 0))) := Lib.hid (heap_alloc_new ..)
  obtain ⟨W1, hW1⟩ : ∃ W1, W1 = w.alloc (.cells #[.slice A l.length cap, .int .i64 x] 25) := ⟨_, rfl⟩
  have Z1 : Hid (W1.heap.size = w.heap.size + 1) := Lib.hid (by rw [hW1]; simp)
  rw [← hW1] at B1 P0
  obtain ⟨n, hn⟩ : ∃ n, n = l.length := ⟨_, rfl⟩
  have HN := Lib.hid hn
  rw [← hn] at hW1 GD ST BE P0 BP hl ⊢
  clear h hn
  have AV : Hid (Ep.inAt l x o = false → Ep.atV l x o = 0) := Lib.hid fun hh => by unfold Ep.atV; rw [if_neg (by rw [hh]; decide)]
  have AV1 : Hid (Ep.inAt l x o = true → Ep.atV l x o = Pl.epochV (l.getD (Ep.below l (o + 1) - 1) 0)) := Lib.hid fun hh => by unfold Ep.atV; rw [if_pos hh]
  have IA := Lib.hid (inAt_cases l x o)
  rcases hg : Ep.good l x with _ | _
  · rw [hg] at GD IA
    have E : Hid (Ep.inAt l x o = false) := Lib.hid (by rw [IA.out]; rfl)
    have E2 := Lib.hid (AV.out E.out)
    clear hg AV AV1 IA
    go_enter Try.func10, Try.ntmps10
    go_wp2_with fail
    rw [← hW1]
    obtain ⟨⟨x0, x1⟩, -⟩ := ob2 P0.out
    clear hW1
    go_wp2_with (go_at_call 13; (with_reducible refine (GD.out _ B1.out).mono ?_); rintro e w2 ⟨rfl, b2⟩)
    go_ret2
    exact ⟨ret_pair E2.out.symm E.out.symm, Lib.hid (B1.out.trans (b2.out.mono B1.out.size))⟩
  · rw [hg, Bool.true_and] at IA
    rw [hg] at GD
    have hx1 := HI.out hg
    have BE1 : Hid (∀ W, Below w.heap.size w W → Calls Try.prog 21 #[.slice A n cap, .int .i64 (o + 1)] W (IntB W (Ep.below l (o + 1) : Nat))) := Lib.hid fun W hW => BE.out W hW hg
    clear hg BE HI
    generalize Ep.startV l x 0 = st at *
    by_cases h1 : st ≤ o
    · by_cases h2 : o < x
      · have E : Hid (Ep.inAt l x o = true) := Lib.hid (by rw [IA.out, decide_eq_true h1, decide_eq_true h2]; rfl)
        have hbp := BP.out E.out
        obtain ⟨m, hm⟩ : ∃ m, Ep.below l (o + 1) = m + 1 := ⟨Ep.below l (o + 1) - 1, by omega⟩
        rw [hm] at hbp BE1 AV1
        rw [Nat.add_sub_cancel] at AV1
        obtain ⟨b, off, z, rfl, hb, hc, hz, z0, z1⟩ := H.out.at_ (k := m) (by rw [← HN.out]; omega)
        have hwm : IntKind.i64.wrap (m : Int) = m := IntWalk.i64_in _ (by omega)
        have hmn : (m : Int) < (n : Int) := by omega
        have BE2 : Hid (∀ W, Below w.heap.size w W → Calls Try.prog 21 #[.slice (some ⟨b, off, none⟩) n cap, .int .i64 (IntKind.i64.wrap (o + 1))] W (IntB W ((m : Int) + 1))) := Lib.hid fun W hW => by
          have := BE1.out W hW
          rw [IntWalk.i64_in (o + 1) (by omega)]
          rw [show ((m + 1 : Nat) : Int) = (m : Int) + 1 by omega] at this
          exact this
        have E1 : Hid (∀ W, Calls Try.prog 15 #[.int .u64 z] W fun e w' => e = .returned (.int .i64 (Pl.epochV z)) ∧ W = w') := Lib.hid (epoch_any z z0 z1)
        have E2 : Hid (Ep.atV l x o = Pl.epochV z) := Lib.hid (by rw [AV1.out E.out, hz.out])
        have HC := Lib.hid hc
        generalize Pl.epochV z = ez at *
        clear AV AV1 IA BE1 hbp BP hm hz z0 z1 hc hl
        go_enter Try.func10, Try.ntmps10
        go_wp2_with fail
        rw [← hW1]
        obtain ⟨⟨x0, x1⟩, -⟩ := ob2 P0.out
        clear hW1
        go_wp2_with fail
        (with_reducible refine (GD.out _ B1.out).mono ?_); rintro e w2 ⟨rfl, b2⟩
        have P2 : Hid (w2.heap[w.heap.size]? = some (.cells #[.slice (some ⟨b, off, none⟩) n cap, .int .i64 x] 25 (0, 0))) := Lib.hid ((b2.out.block _ (by rw [Z1.out]; omega)).trans P0.out)
        have B2 := Lib.hid (B1.out.trans (b2.out.mono B1.out.size))
        have Z2 : Hid (w.heap.size < w2.heap.size) := Lib.hid (lt_of_block P2.out)
        obtain ⟨⟨y0, y1⟩, -⟩ := ob2 P2.out
        clear b2
        go_wp2_with fail
        (with_reducible refine (ST.out _ B2.out).mono ?_); rintro e w3 ⟨rfl, b3⟩
        have P3 : Hid (w3.heap[w.heap.size]? = some (.cells #[.slice (some ⟨b, off, none⟩) n cap, .int .i64 x] 25 (0, 0))) := Lib.hid ((b3.out.block _ Z2.out).trans P2.out)
        have B3 := Lib.hid (B2.out.trans (b3.out.mono B2.out.size))
        have Z3 : Hid (w.heap.size < w3.heap.size) := Lib.hid (lt_of_block P3.out)
        obtain ⟨⟨v0, v1⟩, -⟩ := ob2 P3.out
        clear b3
        go_wp2_with fail
        have S0 : Hid (w3.drew.cell? ⟨w.heap.size, 0, none⟩ = some (.slice (some ⟨b, off, none⟩) n cap) ∧ w3.drew.cell? ⟨b, off + m, none⟩ = some (.int .u64 z)) := Lib.hid ⟨v0, (B3.out.drew.cell (p := ⟨b, off + m, none⟩) hb.out).trans HC.out⟩
        go_region_held3 (fun w' => w'.cell? ⟨w.heap.size, 0, none⟩ = some (.slice (some ⟨b, off, none⟩) n cap) ∧ w'.cell? ⟨b, off + m, none⟩ = some (.int .u64 z)) ((first | exact S0.out | exact S4.out | go_keep))
          (first
            | (go_simp; go_at_call 15; (with_reducible refine (E1.out _).mono ?_); rintro e w5 ⟨rfl, rfl⟩)
            | (go_simp; go_at_call 21; (with_reducible refine (BE2.out _ (B3.out.drew)).mono ?_); rintro e w4 ⟨rfl, b4⟩; have S4 : Hid (w4.cell? ⟨w.heap.size, 0, none⟩ = some (.slice (some ⟨b, off, none⟩) n cap) ∧ w4.cell? ⟨b, off + m, none⟩ = some (.int .u64 z)) := Lib.hid ⟨(b4.out.cell (p := ⟨w.heap.size, 0, none⟩) Z3.out).trans S0.out.1, (b4.out.cell (p := ⟨b, off + m, none⟩) (Nat.lt_trans hb.out Z3.out)).trans S0.out.2⟩))
        go_wp2
        go_ret2
        exact ⟨ret_pair E2.out.symm E.out.symm, Lib.hid (B3.out.drew.trans (b4.out.mono B3.out.size))⟩
      · have E : Hid (Ep.inAt l x o = false) := Lib.hid (by rw [IA.out, decide_eq_false h2, Bool.and_false])
        have E2 := Lib.hid (AV.out E.out)
        clear AV AV1 IA BE1 BP hl
        go_enter Try.func10, Try.ntmps10
        go_wp2_with fail
        rw [← hW1]
        obtain ⟨⟨x0, x1⟩, -⟩ := ob2 P0.out
        clear hW1
        go_wp2_with fail
        (with_reducible refine (GD.out _ B1.out).mono ?_); rintro e w2 ⟨rfl, b2⟩
        have P2 : Hid (w2.heap[w.heap.size]? = some (.cells #[.slice A n cap, .int .i64 x] 25 (0, 0))) := Lib.hid ((b2.out.block _ (by rw [Z1.out]; omega)).trans P0.out)
        have B2 := Lib.hid (B1.out.trans (b2.out.mono B1.out.size))
        have Z2 : Hid (w.heap.size < w2.heap.size) := Lib.hid (lt_of_block P2.out)
        obtain ⟨⟨y0, y1⟩, -⟩ := ob2 P2.out
        clear b2
        go_wp2_with fail
        (with_reducible refine (ST.out _ B2.out).mono ?_); rintro e w3 ⟨rfl, b3⟩
        have P3 : Hid (w3.heap[w.heap.size]? = some (.cells #[.slice A n cap, .int .i64 x] 25 (0, 0))) := Lib.hid ((b3.out.block _ Z2.out).trans P2.out)
        obtain ⟨⟨v0, v1⟩, -⟩ := ob2 P3.out
        go_wp2
        go_ret2
        exact ⟨ret_pair E2.out.symm E.out.symm, Lib.hid (B2.out.trans (b3.out.mono B2.out.size))⟩
    · have E : Hid (Ep.inAt l x o = false) := Lib.hid (by rw [IA.out, decide_eq_false h1, Bool.false_and])
      have E2 := Lib.hid (AV.out E.out)
      clear AV AV1 IA BE1 BP hl
      go_enter Try.func10, Try.ntmps10
      go_wp2_with fail
      rw [← hW1]
      obtain ⟨⟨x0, x1⟩, -⟩ := ob2 P0.out
      clear hW1
      go_wp2_with fail
      (with_reducible refine (GD.out _ B1.out).mono ?_); rintro e w2 ⟨rfl, b2⟩
      have P2 : Hid (w2.heap[w.heap.size]? = some (.cells #[.slice A n cap, .int .i64 x] 25 (0, 0))) := Lib.hid ((b2.out.block _ (by rw [Z1.out]; omega)).trans P0.out)
      have B2 := Lib.hid (B1.out.trans (b2.out.mono B1.out.size))
      obtain ⟨⟨y0, y1⟩, -⟩ := ob2 P2.out
      clear b2
      go_wp2_with fail
      (with_reducible refine (ST.out _ B2.out).mono ?_); rintro e w3 ⟨rfl, b3⟩
      go_wp2
      go_ret2
      exact ⟨ret_pair E2.out.symm E.out.symm, Lib.hid (B2.out.trans (b3.out.mono B2.out.size))⟩
end Go.Proofs.Ytfidakogpgdnjaa
