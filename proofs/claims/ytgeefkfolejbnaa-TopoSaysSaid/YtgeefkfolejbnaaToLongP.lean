/-
  The program's Long; slices.Max at []int.
-/
import Derived.Test.YtgeefkfolejbnaaToLevels
import Derived.Test.YtgeefkfolejbnaaGrShort
namespace Go.Proofs.Ytgeefkfolejbnaa
open Go.RowKit
theorem To.mx_map (f : Nat → Nat) (l : List Nat) : To.mx (fun x => x) (l.map f) = To.mx f l := by
  induction l with
  | nil => rfl
  | cons a r ih => show max (f a + 1) (To.mx (fun x => x) (r.map f)) = max (f a + 1) (To.mx f r); rw [ih]
theorem To.take_one {l : List Nat} (h : 0 < l.length) : l.take 1 = [l.getD 0 0] := by
  cases l with
  | nil => simp at h
  | cons a r => rfl
theorem To.mx_take_pos (f : Nat → Nat) {l : List Nat} (h : 0 < l.length) {k : Nat} (hk : 0 < k) : 0 < To.mx f (l.take k) := by
  cases l with
  | nil => simp at h
  | cons a r =>
    obtain ⟨j, rfl⟩ : ∃ j, k = j + 1 := ⟨k - 1, by omega⟩
    show 0 < max (f a + 1) (To.mx f (r.take j))
    omega
set_option maxHeartbeats 2000000 in
theorem max_any (A : Option Addr) (l : List Nat) (cap : Nat) (hl0 : 0 < l.length) (hl : l.length ≤ 1000000) (w : World) (h : Zs w w.heap.size A (Gr.ints l)) :
    Calls Try.prog 30 #[.slice A l.length cap] w (IntG w ((To.mx (fun x => x) l : Nat) - 1 : Int)) := by
  have H := Lib.hid h
  obtain ⟨n, hn⟩ : ∃ n, n = l.length := ⟨_, rfl⟩
  have HN := Lib.hid hn
  rw [← hn] at hl hl0 ⊢
  clear h hn
  have hn1 : (1 : Int) ≤ (n : Int) := by omega
  obtain ⟨b0, off0, y0, rfl, hb0, hc0, hy0, hy00, hy01⟩ := H.out.at_ (k := 0) (by rw [Gr.ints_len, ← HN.out]; exact hl0)
  rw [Nat.add_zero] at hc0
  have M1 : Hid (y0 = ((To.mx (fun x => x) (l.take 1) : Nat) : Int) - 1) := Lib.hid (by
    have e := hy0.out
    rw [Gr.ints_get] at e
    rw [← e, To.take_one (by rw [← HN.out]; exact hl0)]
    show _ = ((max (l.getD 0 0 + 1) 0 : Nat) : Int) - 1
    omega)
  clear hy0 hy00 hy01
  go_enter Try.func30, Try.ntmps30
  go_wp2_with fail
  clear hc0
  go_loopw [3, 4] (fun mv iv wr => ∃ (k : Nat) (m : Int), 1 ≤ k ∧ k ≤ n ∧ iv = .int .i64 k ∧ mv = .int .i64 m ∧ Hid (m = ((To.mx (fun x => x) (l.take k) : Nat) : Int) - 1) ∧ Hid (Below w.heap.size w wr)) (fun _ iv _ => n - (intOf iv).toNat)
  case atStart => exact ⟨1, y0, Nat.le_refl _, hl0, rfl, rfl, M1, Lib.hid (Below.refl _ _)⟩
  case round =>
    obtain ⟨k, m, hk1, hk, rfl, rfl, HM, HB⟩ := hrel
    by_cases hlt : k < n
    · have hlt' : (k : Int) < (n : Int) := by omega
      have hkl : k < l.length := by rw [← HN.out]; exact hlt
      obtain ⟨b, off, z, he, hb, hc, hz, hz0, hz1⟩ := (H.out.below HB.out).at_ (k := k) (by rw [Gr.ints_len]; exact hkl)
      injection he with he
      injection he with he1 he2
      subst he1 he2
      have HM' : Hid (max m z = ((To.mx (fun x => x) (l.take (k + 1)) : Nat) : Int) - 1) := Lib.hid (by
        have e := hz.out
        rw [Gr.ints_get] at e
        rw [HM.out, ← e, take_getD hkl rfl, To.mx_snoc]
        omega)
      obtain ⟨t, ht⟩ : ∃ t, t = max m z := ⟨_, rfl⟩
      rw [← ht] at HM'
      have HT := Lib.hid ht.symm
      clear hz hz0 hz1 ht
      go_wp2_with fail
      rw [HT.out]
      go_roundw
      case rel => exact ⟨k + 1, t, by omega, by omega, by go_num, rfl, HM', HB⟩
      case measure => simp [intOf]; omega
    · obtain rfl : n = k := by omega
      have R : Hid (m = ((To.mx (fun x => x) l : Nat) : Int) - 1) := Lib.hid (by have := HM.out; rwa [HN.out, List.take_length] at this)
      go_wp2
      go_ret
      exact ⟨ret_int R.out, HB⟩
set_option maxRecDepth 100000 in
set_option maxHeartbeats 4000000 in
theorem long_any (n : Int) (A : Option Addr) (es : Gr.EI) (cap : Nat) (hl : es.length ≤ 9223372036854775807) (w : World) (h : Edg w w.heap.size A es) :
    Calls Try.prog 13 #[.agg #[.int .i64 n, .slice A es.length cap]] w (IntG w (To.longI n es)) := by
  have LV : Hid (∀ W, Below w.heap.size w W → Calls Try.prog 10 #[.agg #[.int .i64 n, .slice A es.length cap]] W (OptG W (To.levelsI n es))) := Lib.hid fun W hW => levels_any n A es cap hl W (h.on hW)
  generalize es.length = l at *
  clear h hl
  obtain ⟨W1, hW1⟩ : ∃ W1, W1 = w.alloc (.cells #[.int .i64 n, .slice A l cap] 27) := ⟨_, rfl⟩
  have P1 : Hid (W1.heap[w.heap.size]? = some (.cells #[.int .i64 n, .slice A l cap] 27 (0, 0))) := Lib.hid (by rw [hW1]; exact heap_alloc_new ..)
  have B1 : Hid (Below w.heap.size w W1) := Lib.hid (by rw [hW1]; exact (Below.refl _ _).alloc (Nat.le_refl _) _)
  obtain ⟨⟨x0, x1⟩, -⟩ := obG P1.out
  cases hg : To.okI n es with
  | false =>
    have LV1 : Hid (Calls Try.prog 10 #[.agg #[.int .i64 n, .slice A l cap]] W1 (OptN W1)) := Lib.hid ((LV.out _ B1.out).mono fun e w' h => by rw [To.levelsI_no hg] at h; exact h.no)
    have E : Hid (To.longI n es = 0) := Lib.hid (To.longI_no hg)
    clear hg
    go_enter Try.func13, Try.ntmps13
    go_wp2_with fail
    rw [← hW1]
    clear hW1
    (with_reducible refine LV1.out.mono ?_); rintro e w2 ⟨A2, c2, rfl, b2⟩
    go_wp2
    go_ret
    exact ⟨ret_int E.out.symm, Lib.hid (B1.out.trans (b2.out.mono B1.out.size))⟩
  | true =>
    obtain ⟨hG, hT⟩ := To.okI_iff.1 hg
    obtain ⟨N, hN⟩ : ∃ N : Nat, n = (N : Int) := ⟨n.toNat, by have := hG.n0; omega⟩
    have hN16 : N ≤ 16 := by have := hG.n16; omega
    subst hN
    have EM : Hid (To.longI (N : Int) es = ((To.mx (fun x => x) ((List.range N).map (To.lev (Gr.nat es) N)) : Nat) : Int)) := Lib.hid (by rw [To.longI_yes hg, To.mx_map, Int.toNat_natCast])
    have LV1 : Hid (Calls Try.prog 10 #[.agg #[.int .i64 (N : Int), .slice A l cap]] W1 (OptY W1 (Gr.ints ((List.range N).map (To.lev (Gr.nat es) N))) N)) := Lib.hid ((LV.out _ B1.out).mono fun e w' h => by rw [To.levelsI_yes hg, Int.toNat_natCast] at h; exact h.yes (by rw [Gr.ints_len]; simp))
    obtain ⟨ls, hls⟩ : ∃ ls, ls = (List.range N).map (To.lev (Gr.nat es) N) := ⟨_, rfl⟩
    have LL : Hid (ls.length = N) := Lib.hid (by rw [hls]; simp)
    have LE : Hid (To.mx (fun x => x) ls ≤ 16) := Lib.hid (by
      have hl := hG.low
      rw [Int.toNat_natCast] at hl
      rw [hls, To.mx_map]
      exact Nat.le_trans (To.long_le hl hT) hN16)
    rw [← hls] at EM LV1
    clear hg hG hT hls LV
    by_cases hN0 : N = 0
    · have E : Hid (To.longI (N : Int) es = 0) := Lib.hid (by rw [EM.out, List.length_eq_zero_iff.1 (LL.out.trans hN0)]; rfl)
      have hd : ((N : Int) == 0) = true := by simpa using hN0
      clear hN0
      go_enter Try.func13, Try.ntmps13
      go_wp2_with fail
      rw [← hW1]
      clear hW1
      (with_reducible refine LV1.out.mono ?_); rintro e w2 ⟨A2, c2, rfl, z2, b2⟩
      go_wp2
      go_ret
      exact ⟨ret_int E.out.symm, Lib.hid (B1.out.trans (b2.out.mono B1.out.size))⟩
    · have hd : ((N : Int) == 0) = false := by simpa using hN0
      go_enter Try.func13, Try.ntmps13
      go_wp2_with fail
      rw [← hW1]
      clear hW1
      (with_reducible refine LV1.out.mono ?_); rintro e w2 ⟨A2, c2, rfl, z2, b2⟩
      have MX : Hid (Calls Try.prog 30 #[.slice A2 N c2] w2 (IntG w2 ((To.mx (fun x => x) ls : Nat) - 1 : Int))) := Lib.hid (by
        have := max_any A2 ls c2 (by rw [LL.out]; omega) (by rw [LL.out]; omega) w2 z2.out
        rwa [LL.out] at this)
      have hmx := LE.out
      obtain ⟨t, ht⟩ : ∃ t : Nat, t = To.mx (fun x => x) ls := ⟨_, rfl⟩
      rw [← ht] at MX EM hmx
      go_wp2_with fail
      (with_reducible refine MX.out.mono ?_); rintro e w3 ⟨rfl, b3⟩
      go_wp2
      go_ret
      exact ⟨ret_int (by rw [EM.out]; omega), Lib.hid ((B1.out.trans (b2.out.mono B1.out.size)).trans (b3.out.mono (Nat.le_trans B1.out.size b2.out.size)))⟩
end Go.Proofs.Ytgeefkfolejbnaa
