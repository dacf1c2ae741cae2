/-
  Package epochs: how many of a valid table's stamps lie below an offset (sort.Search by its contract).
-/
import Derived.Test.YtfidakogpgdnjaaEpGood
import Derived.Test.YtfidakogpgdnjaaSearchLay
namespace Go.Proofs.Ytfidakogpgdnjaa
open Go.RowKit Go.Lib Go.Sort
set_option maxHeartbeats 2000000 in
theorem closure_any (ba bx b off cap n : Nat) (z o : Int) (z0 : 0 ≤ z) (z1 : z < 18446744073709551616) (i : Nat) (W : World) (hi : i < n)
    (ha : W.cell? ⟨ba, 0, none⟩ = some (.slice (some ⟨b, off, none⟩) n cap)) (hx : W.cell? ⟨bx, 0, none⟩ = some (.int .i64 o)) (hc : W.cell? ⟨b, off + i, none⟩ = some (.int .u64 z)) :
    Calls Try.prog 27 (#[.int .i64 i] ++ #[.pointer (some ⟨ba, 0, none⟩), .pointer (some ⟨bx, 0, none⟩)]) W fun e w' => e = .returned (.bool (decide (o ≤ Pl.offV z))) ∧ ∃ q, w' = W.drewN q := by
  have O1 := stOff_any z z0 z1
  generalize Pl.offV z = oz at *
  have hiz : (i : Int) < (n : Int) := by omega
  clear z0 z1
  go_enter Try.func27, Try.ntmps27
  go_wp2_with fail
  go_quiet ((go_at_call 16; exact stillE O1))
  go_wp2
  go_ret
  exact ⟨rfl, _, rfl⟩
theorem countP_getD (l : List Int) (f : Int → Bool) : (List.range l.length).countP (fun i => f (l.getD i 0)) = l.countP f := by
  induction l with
  | nil => rfl
  | cons a t ih =>
    rw [List.length_cons, List.range_succ_eq_map, List.countP_cons, List.countP_map, List.countP_cons]
    congr 1
set_option maxHeartbeats 2000000 in
theorem below_any (A : Option Addr) (l : List Int) (cap : Nat) (o : Int) (hl : l.length ≤ 1073741824) (w : World) (h : Sts w w.heap.size A l) (hs : l.Pairwise Ep.Lt) :
    Calls Try.prog 21 #[.slice A l.length cap, .int .i64 o] w (IntB w (Ep.below l o : Nat)) := by
  obtain ⟨W0, hW0⟩ : ∃ W0, W0 = (w.alloc (.cells #[.slice A l.length cap] 23)).alloc (.cells #[.int .i64 o] 2) := ⟨_, rfl⟩
  have hsize : W0.heap.size = w.heap.size + 1 + 1 := by rw [hW0]; simp
  have BL : Below w.heap.size w W0 := by rw [hW0]; exact ((Below.refl _ w).alloc (Nat.le_refl _) _).alloc (by simp) _
  have ca : W0.cell? ⟨w.heap.size, 0, none⟩ = some (.slice A l.length cap) := by rw [hW0]; exact cell_alloc_sl _ (cell_new_sl w _ _)
  have cx : W0.cell? ⟨w.heap.size + 1, 0, none⟩ = some (.int .i64 o) := by rw [hW0]; have := cell_new_sl (w.alloc (.cells #[.slice A l.length cap] 23)) (.int .i64 o) 2; rwa [World.size_alloc] at this
  have hS0 : Sts W0 w.heap.size A l := h.below BL
  have eg : ∀ args w, (callFunc 27 args).run Try.prog w = .ok (.enter 27 args) w := enters_of Try.func27 (by kernel_rfl) rfl
  have hS := Any.sort_Search Try.search 27 #[.pointer (some ⟨w.heap.size, 0, none⟩), .pointer (some ⟨w.heap.size + 1, 0, none⟩)] l.length (fun i => decide (o ≤ Pl.offV (l.getD i 0))) W0 eg (by omega)
    (fun m os i hi => by
      obtain ⟨b, off, z, rfl, hb, hc, hz, z0, z1⟩ := hS0.at_ hi
      simp only [hz.out]
      exact (closure_any w.heap.size (w.heap.size + 1) b off cap l.length z o z0 z1 i _ hi (cell_grown (by simp [hsize]; omega) ca m os) (cell_grown (by simp [hsize]) cx m os) (cell_grown (by have := hb.out; simp [hsize]; omega) hc m os)).mono
        fun _ _ ⟨he, q, hq⟩ => ⟨he, q, #[], by rw [hq, grow_empty]⟩)
    (fun a b hab hb h1 => by
      simp only [decide_eq_true_eq] at h1 ⊢
      rcases Nat.lt_or_ge a b with hlt | hge
      · have := (List.pairwise_iff_getElem.1 hs a b (by omega) hb hlt).2
        rw [Ep.getD_eq (by omega)] at h1
        rw [Ep.getD_eq hb]
        omega
      · obtain rfl : a = b := by omega
        exact h1)
  rw [countP_getD l (fun z => !decide (o ≤ Pl.offV z))] at hS
  have hcnt : l.countP (fun z => !decide (o ≤ Pl.offV z)) = Ep.below l o := by
    unfold Ep.below
    refine List.countP_congr fun z _ => ?_
    simp
  rw [hcnt] at hS
  change Calls Try.prog 26 _ _ _ at hS
  have HS := Lib.hid hS
  have HB := Lib.hid BL
  have HZ := Lib.hid hsize
  clear ca cx hS0 hS BL hsize h hs hcnt eg
  generalize Ep.below l o = r at *
  generalize l.length = n at *
  go_enter Try.func21, Try.ntmps21
  go_wp2_with (go_at_call 26; rw [← hW0]; clear hW0; (with_reducible refine HS.out.mono ?_); rintro e w' ⟨rfl, q, os, rfl⟩)
  go_ret
  exact ⟨rfl, Lib.hid (HB.out.trans (below_grown_sl w.heap.size W0 q os (by have := HZ.out; omega)))⟩
end Go.Proofs.Ytfidakogpgdnjaa
