/-
  The reference's Long.
-/
import Derived.Test.YtgeefkfolejbnaaToRefLev
namespace Go.Proofs.Ytgeefkfolejbnaa
open Go.RowKit
theorem To.mx_range (f : Nat → Nat) (k : Nat) : To.mx f (List.range (k + 1)) = max (To.mx f (List.range k)) (f k + 1) := by rw [List.range_succ, To.mx_snoc]
theorem To.mx_bound {f : Nat → Nat} {N : Nat} (h : ∀ x, x < N → f x < N) (k : Nat) (hk : k ≤ N) : To.mx f (List.range k) ≤ N := by
  rcases (To.mx_le (j := To.mx f (List.range k))).1 (Nat.le_refl _) with h1 | ⟨a, h1, h2⟩
  · omega
  · have := h a (by have := List.mem_range.1 h1; omega); omega
set_option maxHeartbeats 2000000 in
theorem refLong_any (n : Int) (A : Option Addr) (es : Gr.EI) (cap : Nat) (hl : es.length ≤ 1000000) (w : World) (h : Edg w w.heap.size A es) :
    Calls Try.prog 20 #[.agg #[.int .i64 n, .slice A es.length cap]] w (IntG w (To.longI n es)) := by
  have LE : Hid (∀ W, Below w.heap.size w W → Calls Try.prog 17 #[.agg #[.int .i64 n, .slice A es.length cap]] W (OptG W (To.levelsI n es))) := Lib.hid fun W hW => refLevels_any n A es cap hl W (h.on hW)
  generalize es.length = l at *
  clear h hl
  obtain ⟨W1, hW1⟩ : ∃ W1, W1 = w.alloc (.cells #[.int .i64 n, .slice A l cap] 39) := ⟨_, rfl⟩
  have P1 : Hid (W1.heap[w.heap.size]? = some (.cells #[.int .i64 n, .slice A l cap] 39 (0, 0))) := Lib.hid (by rw [hW1]; exact heap_alloc_new ..)
  have B1 : Hid (Below w.heap.size w W1) := Lib.hid (by rw [hW1]; exact (Below.refl _ _).alloc (Nat.le_refl _) _)
  obtain ⟨⟨x0, x1⟩, -⟩ := obG P1.out
  cases hg : To.okI n es with
  | false =>
    have LE1 : Hid (Calls Try.prog 17 #[.agg #[.int .i64 n, .slice A l cap]] W1 (OptN W1)) := Lib.hid ((LE.out _ B1.out).mono fun e w' h => by rw [To.levelsI_no hg] at h; exact h.no)
    have E : Hid (To.longI n es = 0) := Lib.hid (To.longI_no hg)
    clear hg LE
    go_enter Try.func20, Try.ntmps20
    go_wp2_with fail
    rw [← hW1]
    clear hW1
    (with_reducible refine LE1.out.mono ?_); rintro e w2 ⟨A2, c2, rfl, b2⟩
    go_wp2_with fail
    go_loopw [5, 6] (fun nv iv wr => nv = .int .i64 0 ∧ iv = .int .i64 0 ∧ wr = w2) (fun _ _ _ => 0)
    case atStart => exact ⟨rfl, rfl, rfl⟩
    case round =>
      obtain ⟨rfl, rfl, rfl⟩ := hrel
      go_wp2
      go_ret
      exact ⟨ret_int E.out.symm, Lib.hid (B1.out.trans (b2.out.mono B1.out.size))⟩
  | true =>
    obtain ⟨hG, hT⟩ := To.okI_iff.1 hg
    obtain ⟨N, hN⟩ : ∃ N : Nat, n = (N : Int) := ⟨n.toNat, by have := hG.n0; omega⟩
    have hN16 : N ≤ 16 := by have := hG.n16; omega
    subst hN
    have hlow := hG.low
    rw [Int.toNat_natCast] at hlow
    have E : Hid (To.longI (N : Int) es = (To.mx (To.lev (Gr.nat es) N) (List.range N) : Nat)) := Lib.hid (by rw [To.longI_yes hg, Int.toNat_natCast])
    obtain ⟨lv, hlv⟩ : ∃ lv, lv = (List.range N).map (To.lev (Gr.nat es) N) := ⟨_, rfl⟩
    have hll : lv.length = N := by rw [hlv, List.length_map, List.length_range]
    have LE1 : Hid (Calls Try.prog 17 #[.agg #[.int .i64 (N : Int), .slice A l cap]] W1 (OptY W1 (Gr.ints lv) N)) := Lib.hid ((LE.out _ B1.out).mono fun e w' h => by rw [To.levelsI_yes hg, Int.toNat_natCast, ← hlv] at h; exact h.yes (by rw [Gr.ints_len, hll]))
    have LV : Hid (∀ k, k < N → (Gr.ints lv).getD k 0 = (To.lev (Gr.nat es) N k : Int) ∧ To.lev (Gr.nat es) N k < N) := Lib.hid fun k hk => ⟨by
      rw [Gr.ints_get, hlv, List.getD_eq_getElem?_getD, List.getElem?_map, List.getElem?_range hk]; rfl, To.lev_lt hlow hT hk⟩
    have LL : Hid ((Gr.ints lv).length = N) := Lib.hid (by rw [Gr.ints_len, hll])
    clear hg hG hT hlow hlv hll LE
    generalize To.lev (Gr.nat es) N = f at *
    go_enter Try.func20, Try.ntmps20
    go_wp2_with fail
    rw [← hW1]
    clear hW1
    (with_reducible refine LE1.out.mono ?_); rintro e w2 ⟨A2, c2, rfl, z2, b2⟩
    have B2 : Hid (Below w.heap.size w w2) := Lib.hid (B1.out.trans (b2.out.mono B1.out.size))
    clear b2 x0 x1 P1 B1 LE1
    go_wp2_with fail
    go_loopw [5, 6] (fun nv iv wr => ∃ k : Nat, k ≤ N ∧ iv = .int .i64 k ∧ nv = .int .i64 (To.mx f (List.range k) : Nat) ∧ wr = w2) (fun _ iv _ => N - (intOf iv).toNat)
    case atStart => exact ⟨0, Nat.zero_le _, rfl, rfl, rfl⟩
    case round =>
      obtain ⟨k, hk, rfl, rfl, rfl⟩ := hrel
      by_cases hlt : k < N
      · have hlt' : (k : Int) < (N : Int) := by omega
        obtain ⟨b, off, y, rfl, hb, hc, hy, hy0, hy1⟩ := z2.out.at_ (k := k) (by rw [LL.out]; exact hlt)
        obtain ⟨h1, h2⟩ := LV.out k hlt
        rw [hy.out] at h1
        have hM := To.mx_bound (f := f) (N := N) (fun x hx => (LV.out x hx).2) k hk
        have NX := Lib.hid (To.mx_range f k)
        generalize To.mx f (List.range k) = mv at *
        obtain ⟨v, hv⟩ : ∃ v : Int, v = (mv : Int) := ⟨_, rfl⟩
        rw [← hv]
        have HY := Lib.hid h1
        have HV := Lib.hid hv
        have hy2 : 0 ≤ y := by omega
        have hy3 : y < 16 := by omega
        have hv0 : 0 ≤ v := by omega
        have hv1 : v ≤ 16 := by omega
        clear hy hy0 hy1 h1 h2 hM hv hb
        by_cases c3 : v < y + 1
        · have NX' : Hid (((To.mx f (List.range (k + 1)) : Nat) : Int) = y + 1) := Lib.hid (by rw [NX.out]; have := HY.out; have := HV.out; omega)
          clear HY HV NX
          go_wp2
          go_roundw
          case rel => exact ⟨k + 1, by omega, by go_num, by rw [NX'.out], trivial⟩
          case measure => simp [intOf]; omega
        · have NX' : Hid (((To.mx f (List.range (k + 1)) : Nat) : Int) = v) := Lib.hid (by rw [NX.out]; have := HY.out; have := HV.out; omega)
          clear HY HV NX
          go_wp2
          go_roundw
          case rel => exact ⟨k + 1, by omega, by go_num, by rw [NX'.out], trivial⟩
          case measure => simp [intOf]; omega
      · obtain rfl : N = k := by omega
        go_wp2
        go_ret
        exact ⟨ret_int E.out.symm, B2⟩
end Go.Proofs.Ytgeefkfolejbnaa
