/-
  Package back: Try (sort.Search by its contract); the three contracts.
-/
import Derived.Test.YtgjkpbibcaodjaaBkTotal
import Derived.Test.YtgjkpbibcaodjaaSearchLay
import Derived.Deep.QuietTactic
import Derived.BigQuiet
namespace Go.Proofs.Ytgjkpbibcaodjaa
open Go.RowKit Go.Lib Go.Sort
theorem total_any (b t : Int) (hb : is64 b) (ht : is64 t) (w : World) : Calls Try.prog 10 #[.int .i64 b, .int .i64 t] w (NumP w (Bk.totalI b t)) :=
  (total_same b t hb ht w).mono fun _ _ h => h.num
theorem Bk.countP_first {p : Nat → Bool} {t : Nat} (h0 : ∀ i, i < t → p i = true) : ∀ n, (∀ i, t ≤ i → i < n → p i = false) → (List.range n).countP p = min n t
  | 0, _ => by simp
  | n + 1, h => by
    rw [List.range_succ, List.countP_append, countP_first h0 n fun i h1 h2 => h i h1 (Nat.lt_succ_of_lt h2), List.countP_singleton]
    rcases Nat.lt_or_ge n t with h2 | h2
    · rw [h0 n h2]; simp; omega
    · rw [h n h2 (Nat.lt_succ_self n)]; simp; omega
theorem Bk.count_try {b : Nat} (hb : 1 ≤ b) (w : Nat) : (List.range Bk.M).countP (fun i : Nat => !decide ((w : Int) < Bk.totalI b ((i : Int) + 1))) = Bk.tryV b w := by
  have h := Bk.tryV_is b w
  have e : ∀ i, i < Bk.M → Bk.totalI b ((i : Int) + 1) = (Bk.tot b (i + 1) : Int) := fun i hi => by
    rw [show (i : Int) + 1 = ((i + 1 : Nat) : Int) by omega, Bk.totalI_nat hb, Nat.min_eq_left (show i + 1 ≤ Bk.M by omega)]
  rw [Bk.countP_first (t := Bk.tryV b w) (fun i hi => ?_) Bk.M fun i h1 h2 => ?_, Nat.min_eq_right h.most]
  · rw [e i (Nat.lt_of_lt_of_le hi h.most)]
    have h1 := Bk.tot_mono b (show i + 1 ≤ Bk.tryV b w by omega)
    have h2 := h.fits
    simp; omega
  · rw [e i h2]
    rcases h.more with h3 | h3
    · omega
    · have h4 := Bk.tot_mono b (show Bk.tryV b w + 1 ≤ i + 1 by omega)
      simp; omega
set_option maxHeartbeats 2000000 in
theorem closure_any (ba bx : Nat) (b o : Int) (hb : is64 b) (i : Nat) (W : World) (hi : i < 2147483647)
    (ha : W.cell? ⟨ba, 0, none⟩ = some (.int .i64 b)) (hx : W.cell? ⟨bx, 0, none⟩ = some (.int .i64 o)) :
    Calls Try.prog 16 (#[.int .i64 i] ++ #[.pointer (some ⟨ba, 0, none⟩), .pointer (some ⟨bx, 0, none⟩)]) W fun e w' => e = .returned (.bool (decide (o < Bk.totalI b ((i : Int) + 1)))) ∧ ∃ q, w' = W.drewN q := by
  have T1 : ∀ W, Calls Try.prog 10 #[.int .i64 b, .int .i64 ((i : Int) + 1)] W (StI W (Bk.totalI b ((i : Int) + 1))) := fun W => total_same b ((i : Int) + 1) hb ⟨by omega, by omega⟩ W
  generalize Bk.totalI b ((i : Int) + 1) = z at *
  have hiz : (i : Int) < 2147483647 := by omega
  clear hi
  go_enter Try.func16, Try.ntmps16
  go_wp2_with fail
  go_quiet ((go_at_call 10; exact (T1 _).mono fun _ _ ⟨he, hm⟩ => ⟨he, _, hm.symm⟩))
  go_wp2
  go_ret
  exact ⟨rfl, _, rfl⟩
set_option maxHeartbeats 2000000 in
theorem try_any (b t : Int) (hb : is64 b) (ht : is64 t) (w : World) : Calls Try.prog 11 #[.int .i64 b, .int .i64 t] w (NumP w (Bk.tryI b t)) := by
  obtain ⟨W0, hW0⟩ : ∃ W0, W0 = (w.alloc (.cells #[.int .i64 b] 3)).alloc (.cells #[.int .i64 t] 2) := ⟨_, rfl⟩
  have hsize : W0.heap.size = w.heap.size + 1 + 1 := by rw [hW0]; simp
  have BL : Below w.heap.size w W0 := by rw [hW0]; exact ((Below.refl _ w).alloc (Nat.le_refl _) _).alloc (by simp) _
  have ca : W0.cell? ⟨w.heap.size, 0, none⟩ = some (.int .i64 b) := by rw [hW0]; exact cell_alloc_sl _ (cell_new_sl w _ _)
  have cx : W0.cell? ⟨w.heap.size + 1, 0, none⟩ = some (.int .i64 t) := by rw [hW0]; have := cell_new_sl (w.alloc (.cells #[.int .i64 b] 3)) (.int .i64 t) 2; rwa [World.size_alloc] at this
  have HB := Lib.hid BL
  have HZ := Lib.hid hsize
  by_cases h1 : b < 1
  · have E : Hid (Bk.tryI b t = 0) := Lib.hid (by unfold Bk.tryI; rw [if_pos (.inl h1)])
    clear ca cx hsize BL
    go_enter Try.func11, Try.ntmps11
    go_wp2
    rw [← hW0]
    go_ret
    exact ⟨ret_int E.out.symm, HB⟩
  by_cases h2 : t < 0
  · have E : Hid (Bk.tryI b t = 0) := Lib.hid (by unfold Bk.tryI; rw [if_pos (.inr h2)])
    have h1' : 1 ≤ b := by omega
    clear ca cx hsize BL h1
    go_enter Try.func11, Try.ntmps11
    go_wp2
    rw [← hW0]
    go_ret
    exact ⟨ret_int E.out.symm, HB⟩
  have h1' : 1 ≤ b := by omega
  have h2' : 0 ≤ t := by omega
  obtain ⟨n, hn⟩ : ∃ n : Nat, n = 2147483647 := ⟨_, rfl⟩
  have eg : ∀ args w, (callFunc 16 args).run Try.prog w = .ok (.enter 16 args) w := enters_of Try.func16 (by kernel_rfl) rfl
  have hS := Any.sort_Search Try.search 16 #[.pointer (some ⟨w.heap.size, 0, none⟩), .pointer (some ⟨w.heap.size + 1, 0, none⟩)] n (fun i : Nat => decide (t < Bk.totalI b ((i : Int) + 1))) W0 eg (by omega)
    (fun m os i hi => 
      (closure_any w.heap.size (w.heap.size + 1) b t hb i _ (by omega) (cell_grown (by simp [hsize]; omega) ca m os) (cell_grown (by simp [hsize]) cx m os)).mono
        fun _ _ ⟨he, q, hq⟩ => ⟨he, q, #[], by rw [hq, grow_empty]⟩)
    (fun x y hxy hy hp => by
      simp only [decide_eq_true_eq] at hp ⊢
      obtain ⟨B, rfl⟩ : ∃ B : Nat, b = (B : Int) := ⟨b.toNat, by omega⟩
      rw [show (x : Int) + 1 = ((x + 1 : Nat) : Int) by omega, Bk.totalI_nat (by omega)] at hp
      rw [show (y : Int) + 1 = ((y + 1 : Nat) : Int) by omega, Bk.totalI_nat (by omega)]
      have := Bk.tot_mono B (show min (x + 1) Bk.M ≤ min (y + 1) Bk.M by omega)
      omega)
  have hcnt : ((List.range n).countP (fun i : Nat => !decide (t < Bk.totalI b ((i : Int) + 1))) : Int) = Bk.tryI b t := by
    obtain ⟨B, rfl⟩ : ∃ B : Nat, b = (B : Int) := ⟨b.toNat, by omega⟩
    obtain ⟨T, rfl⟩ : ∃ T : Nat, t = (T : Int) := ⟨t.toNat, by omega⟩
    rw [hn, Bk.tryI_nat (by omega)]
    exact congrArg Nat.cast (Bk.count_try (by omega) T)
  rw [hcnt, show (n : Int) = 2147483647 by omega] at hS
  change Calls Try.prog 15 _ _ _ at hS
  have HS := Lib.hid hS
  clear ca cx hS BL hsize eg hcnt h1 h2 hn n
  generalize Bk.tryI b t = r at *
  go_enter Try.func11, Try.ntmps11
  go_wp2_with (go_at_call 15; rw [← hW0]; clear hW0; (with_reducible refine HS.out.mono ?_); rintro e w' ⟨rfl, q, os, rfl⟩)
  go_ret
  exact ⟨rfl, Lib.hid (HB.out.trans (below_grown_sl w.heap.size W0 q os (by have := HZ.out; omega)))⟩
end Go.Proofs.Ytgjkpbibcaodjaa
