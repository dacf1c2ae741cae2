/-
  What the reference's functions of chapter 1 do, at every argument in range: the same whole numbers and texts as package stamp's own.
-/
import Derived.Test.YtcpihfieinnmkaaDoorStampText
import Derived.Deep.RegionWith
namespace Go.Proofs.YtcpihfieinnmkaaDoor
open Go.RowKit

/-! ### Num: digits -/
def digB (m : Nat) : UInt8 := UInt8.ofNat (48 + m)
theorem conv1 (m : Nat) (hm : m < 10) (W : World) (b : Nat) (hc : W.cell? ⟨b, 0, none⟩ = some (.int .u8 (48 + (m : Int)))) :
    (convert 58 9 (.slice (some ⟨b, 0, none⟩) 1 1)).run Tryd.prog W = .ok (.string (strOf [digB m])) W := by
  have h := run_convert_bytes_back (P := Tryd.prog) W 58 9 5 ⟨b, 0, none⟩ 1 [UInt8.ofNat (48 + m)] Tryd.underlying58 Tryd.underlying5 Tryd.underlying9 (fun j hj => by
    obtain rfl : j = 0 := by simpa using hj
    show W.cell? ⟨b, 0, none⟩ = _
    rw [hc, List.getElem_cons_zero, Pl.dig_nat hm]; push_cast; rfl)
  exact h
theorem bcell {W w1 : World} (hb : Below W.heap.size W w1) : ∀ b o, b < W.heap.size → w1.cell? ⟨b, o, none⟩ = W.cell? ⟨b, o, none⟩ := fun b o h => hb.cell (p := ⟨b, o, none⟩) h
set_option maxHeartbeats 400000 in
theorem num_small (n : Nat) (h : n < 10) (w : World) :
    Calls Tryd.prog 37 #[.int .u64 n] w fun e w' => e = .returned (.string (strOf (Lib.decDigits n))) ∧ Below w.heap.size w w' := by
  have hd := Lib.hid (Pl.dec_small h)
  have hcv := conv1 n h
  go_enter Tryd.func37, Tryd.ntmps37
  go_wp2
  go_ret
  rw [hd.out]
  exact ⟨rfl, (Below.refl _ _).alloc (Nat.le_refl _) _⟩
set_option maxHeartbeats 1000000 in
theorem num_big (n q m : Nat) (h : 10 ≤ n) (h2 : n < 18446744073709551616) (hm : m < 10) (hq : (n : Int) / 10 = (q : Int)) (hr : (n : Int) % 10 = (m : Int)) (A : ByteArray) (hs1 : A.size ≤ 30) (w : World)
    (ih : ∀ w, Calls Tryd.prog 37 #[.int .u64 (q : Int)] w fun e w' => e = .returned (.string A) ∧ Below w.heap.size w w') :
    Calls Tryd.prog 37 #[.int .u64 n] w fun e w' => e = .returned (.string (A ++ strOf [digB m])) ∧ Below w.heap.size w w' := by
  have IH := Lib.hid ih
  clear ih
  have hcv := conv1 m hm
  have hs2 : (strOf [digB m]).size ≤ 1 := Nat.le_refl 1
  generalize hB : strOf [digB m] = B at *
  clear hB
  have t1 : IntKind.u64.wrap (q : Int) = (q : Int) := IntWalk.u64_in _ (by omega)
  have t2 : (n : Int).tmod 10 = (m : Int) := by rw [Int.tmod_eq_emod_of_nonneg (by omega)]; exact hr
  have t3 : IntKind.u64.wrap (48 + (m : Int)) = 48 + (m : Int) := IntWalk.u64_in _ (by omega)
  have t4 : IntKind.u8.wrap (48 + (m : Int)) = 48 + (m : Int) := IntWalk.u8_in _ (by omega)
  clear hr
  go_enter Tryd.func37, Tryd.ntmps37
  go_wp2_with fail
  go_region_with (go_at_call 37; refine (IH.out _).mono ?_; rintro e w1 ⟨rfl, hb1⟩; have hk := bcell hb1; have hz := hb1.size)
  all_goals go_wp2
  all_goals go_ret
  · exact ⟨rfl, ((Below.refl _ w).drew.trans hb1).alloc hz _⟩
  · exact ⟨rfl, ((Below.refl _ w).drew.alloc (Nat.le_refl _) _).trans (hb1.mono (by simp))⟩
  · exact ⟨rfl, ((Below.refl _ w).drew.alloc (Nat.le_refl _) _).trans (hb1.mono (by simp))⟩
theorem num_any (n : Nat) : n < 18446744073709551616 → ∀ w, Calls Tryd.prog 37 #[.int .u64 n] w fun e w' => e = .returned (.string (strOf (Lib.decDigits n))) ∧ Below w.heap.size w w' := by
  induction n using Nat.strongRecOn with
  | ind n ih =>
    intro h2 w
    by_cases h : n < 10
    · exact num_small n h w
    · have hl : (strOf (Lib.decDigits (n / 10))).size ≤ 30 := by
        show (Lib.decDigits (n / 10)).toArray.size ≤ _
        have p : n / 10 < 10 ^ 30 := by
          have : (18446744073709551616 : Nat) ≤ 10 ^ 30 := by decide
          omega
        simpa using Pl.dec_len 30 (n / 10) (by decide) p
      have := num_big n (n / 10) (n % 10) (by omega) h2 (by omega) (by omega) (by omega) (strOf (Lib.decDigits (n / 10))) hl w (ih (n / 10) (by omega) (by omega))
      rw [strOf_app] at this
      rw [Pl.dec_big h]
      exact this
theorem num_int (n : Int) (h0 : 0 ≤ n) (h1 : n < 18446744073709551616) (w : World) :
    Calls Tryd.prog 37 #[.int .u64 n] w fun e w' => e = .returned (.string (strOf (Lib.itoa n))) ∧ Below w.heap.size w w' := by
  obtain ⟨m, rfl⟩ := Int.eq_ofNat_of_zero_le h0
  rw [Pl.itoa_nat]
  exact num_any m (by omega) w

/-! ### Epoch, Off, Text, Pack -/
set_option maxHeartbeats 400000 in
theorem refEpoch_any (s : Int) (h0 : 0 ≤ s) (h1 : s < 18446744073709551616) (w : World) :
    Calls Tryd.prog 22 #[.int .u64 s] w fun e w' => e = .returned (.int .i64 (Pl.epochV s)) ∧ w = w' := by
  go_enter Tryd.func22, Tryd.ntmps22
  go_wp2
  go_ret
  exact ⟨rfl, rfl⟩
set_option maxHeartbeats 400000 in
theorem refOff_any (s : Int) (h0 : 0 ≤ s) (h1 : s < 18446744073709551616) (w : World) :
    Calls Tryd.prog 23 #[.int .u64 s] w fun e w' => e = .returned (.int .i64 (Pl.offV s)) ∧ w = w' := by
  go_enter Tryd.func23, Tryd.ntmps23
  go_wp2
  go_ret
  exact ⟨rfl, rfl⟩
set_option maxHeartbeats 400000 in
theorem refText_any (s : Int) (h0 : 0 ≤ s) (h1 : s < 18446744073709551616) (w : World) :
    Calls Tryd.prog 27 #[.int .u64 s] w fun e w' => e = .returned (.string (strOf (Pl.textOf s))) ∧ Below w.heap.size w w' := by
  have he : 0 ≤ Pl.epochV s ∧ Pl.epochV s ≤ 1048575 := by unfold Pl.epochV; omega
  have ho : 0 ≤ Pl.offV s ∧ Pl.offV s ≤ 17592186044415 := by unfold Pl.offV; omega
  obtain ⟨he1, he2⟩ := he
  obtain ⟨ho1, ho2⟩ := ho
  have hl1 : (strOf (Lib.itoa (Pl.epochV s))).size ≤ 15 := by
    show (Lib.itoa (Pl.epochV s)).toArray.size ≤ _
    simpa using itoa_len (Pl.epochV s) he1 (by omega)
  have hl2 : (strOf (Lib.itoa (Pl.offV s))).size ≤ 15 := by
    show (Lib.itoa (Pl.offV s)).toArray.size ≤ _
    simpa using itoa_len (Pl.offV s) ho1 (by omega)
  have fin : strOf (Pl.textOf s) = strOf (Lib.itoa (Pl.epochV s)) ++ strOf [46] ++ strOf (Lib.itoa (Pl.offV s)) := by
    rw [strOf_app, strOf_app, List.append_assoc]; rfl
  rw [fin]
  clear fin
  have N1 := Lib.hid (fun w => num_int (Pl.epochV s) he1 (by omega) w)
  have N2 := Lib.hid (fun w => num_int (Pl.offV s) ho1 (by omega) w)
  generalize strOf (Lib.itoa (Pl.epochV s)) = A at *
  generalize strOf (Lib.itoa (Pl.offV s)) = B at *
  go_enter Tryd.func27, Tryd.ntmps27
  go_wp2_with (go_at_call 22; refine (refEpoch_any _ h0 h1 _).mono ?_; rintro e w' ⟨rfl, rfl⟩)
  refine (N1.out _).mono ?_
  rintro e w1 ⟨rfl, hb1⟩
  go_wp2_with (go_at_call 23; refine (refOff_any _ h0 h1 _).mono ?_; rintro e w' ⟨rfl, rfl⟩)
  refine (N2.out _).mono ?_
  rintro e w2 ⟨rfl, hb2⟩
  go_wp2
  go_ret
  exact ⟨rfl, below_on hb1 hb2⟩
set_option maxHeartbeats 400000 in
theorem refPack_any (e o : Int) (w : World) :
    Calls Tryd.prog 19 #[.int .i64 e, .int .i64 o] w fun e' w' => e' = .returned (.tuple #[.int .u64 (Pl.packV e o), .bool (Pl.packOk e o)]) ∧ w = w' := by
  by_cases h : 0 ≤ e ∧ e ≤ 1048575 ∧ 0 ≤ o ∧ o ≤ 17592186044415
  · have hp : Pl.packOk e o = true := by simp [Pl.packOk, h]
    have hv : Pl.packV e o = e * 17592186044416 + o := by simp [Pl.packV, hp]
    rw [hp, hv]
    clear hp hv
    obtain ⟨h0, h1, h2, h3⟩ := h
    go_enter Tryd.func19, Tryd.ntmps19
    go_wp2
    go_ret2
    exact ⟨rfl, rfl⟩
  · have hp : Pl.packOk e o = false := by simp [Pl.packOk]; omega
    have hv : Pl.packV e o = 0 := by simp [Pl.packV, hp]
    rw [hp, hv]
    clear hp hv
    have hc : e < 0 ∨ (0 ≤ e ∧ 1048575 < e) ∨ ((0 ≤ e ∧ e ≤ 1048575) ∧ o < 0) ∨ ((0 ≤ e ∧ e ≤ 1048575) ∧ 0 ≤ o ∧ 17592186044415 < o) := by omega
    clear h
    rcases hc with h | ⟨h, h2⟩ | ⟨⟨h, h2⟩, h3⟩ | ⟨⟨h, h2⟩, h3, h4⟩
    all_goals
      go_enter Tryd.func19, Tryd.ntmps19
      go_wp2
      go_ret2
      exact ⟨rfl, rfl⟩

/-! ### Fold, Unfold, powers, Narrow, Wide -/
set_option maxHeartbeats 400000 in
theorem refFold_any (v : Int) (h0 : -9223372036854775808 ≤ v) (h1 : v ≤ 9223372036854775807) (w : World) :
    Calls Tryd.prog 28 #[.int .i64 v] w fun e' w' => e' = .returned (.int .u64 (Pl.foldV v)) ∧ w = w' := by
  by_cases h : 0 ≤ v
  · have hv : Pl.foldV v = v * 2 := by unfold Pl.foldV; rw [if_pos h]; omega
    rw [hv]; clear hv
    go_enter Tryd.func28, Tryd.ntmps28
    go_wp2
    go_ret
    exact ⟨rfl, rfl⟩
  · have h' : v < 0 := by omega
    have hv : Pl.foldV v = -(v + 1) * 2 + 1 := by unfold Pl.foldV; rw [if_neg h]; omega
    rw [hv]; clear hv h
    go_enter Tryd.func28, Tryd.ntmps28
    go_wp2
    go_ret
    exact ⟨rfl, rfl⟩
set_option maxHeartbeats 400000 in
theorem refUnfold_any (u : Int) (h0 : 0 ≤ u) (h1 : u < 18446744073709551616) (w : World) :
    Calls Tryd.prog 29 #[.int .u64 u] w fun e' w' => e' = .returned (.int .i64 (Pl.unfoldV u)) ∧ w = w' := by
  by_cases h : u % 2 = 0
  · have hv : Pl.unfoldV u = u / 2 := by unfold Pl.unfoldV; rw [if_pos h]
    rw [hv]; clear hv
    go_enter Tryd.func29, Tryd.ntmps29
    go_wp2
    go_ret
    exact ⟨rfl, rfl⟩
  · have hv : Pl.unfoldV u = -(u / 2) - 1 := by unfold Pl.unfoldV; rw [if_neg h]
    rw [hv]; clear hv
    go_enter Tryd.func29, Tryd.ntmps29
    go_wp2
    go_ret
    exact ⟨rfl, rfl⟩
set_option maxHeartbeats 400000 in
theorem two_any (b : Int) (h0 : 0 ≤ b) (h1 : b ≤ 63) (w : World) :
    Calls Tryd.prog 35 #[.int .i64 b] w fun e' w' => e' = .returned (.int .u64 (2 ^ b.toNat)) ∧ w = w' := by
  obtain ⟨n, rfl⟩ := Int.eq_ofNat_of_zero_le h0
  rw [Int.toNat_natCast]
  go_enter Tryd.func35, Tryd.ntmps35
  go_wp2
  go_loop [3, 4] (fun r i => ∃ k : Nat, k ≤ n ∧ i = .int .i64 k ∧ r = .int .u64 (2 ^ k)) (fun _ i => n - (intOf i).toNat)
  case atStart => exact ⟨0, by omega, rfl, rfl⟩
  case round =>
    obtain ⟨k, hk, rfl, rfl⟩ := hrel
    by_cases hlt : k < n
    · have hp := Pl.pow_pos k
      have hq := Pl.pow_le (m := k) (n := 62) (by omega)
      have h62 : (2 : Int) ^ 62 = 4611686018427387904 := by decide
      rw [h62] at hq
      clear h62
      have hs := Lib.hid (Int.pow_succ (2 : Int) k)
      generalize (2 : Int) ^ k = K at *
      go_wp2
      go_round
      case rel => exact ⟨k + 1, by omega, by go_num, by rw [hs.out]⟩
      case measure => simp [intOf]; omega
    · obtain rfl : k = n := by omega
      go_wp2
      go_ret
      exact ⟨rfl, rfl⟩
set_option maxHeartbeats 400000 in
theorem refNarrow_any (u b : Int) (_h0 : 0 ≤ u) (h1 : u < 18446744073709551616) (w : World) :
    Calls Tryd.prog 21 #[.int .u64 u, .int .i64 b] w fun e' w' => e' = .returned (.tuple #[.int .u64 (Pl.narrowV u b), .bool (Pl.narrowOk u b)]) ∧ w = w' := by
  have hc : b < 1 ∨ 64 < b ∨ (64 ≤ b ∧ b ≤ 64) ∨ (1 ≤ b ∧ b ≤ 63) := by omega
  rcases hc with h | h | ⟨h, h'⟩ | ⟨h, h'⟩
  · have ho : Pl.narrowOk u b = false := by simp [Pl.narrowOk, Pl.isW]; omega
    have hv : Pl.narrowV u b = 0 := by simp [Pl.narrowV, ho]
    rw [ho, hv]; clear ho hv
    go_enter Tryd.func21, Tryd.ntmps21
    go_wp2
    go_ret2
    exact ⟨rfl, rfl⟩
  · have ho : Pl.narrowOk u b = false := by simp [Pl.narrowOk, Pl.isW]; omega
    have hv : Pl.narrowV u b = 0 := by simp [Pl.narrowV, ho]
    rw [ho, hv]; clear ho hv
    go_enter Tryd.func21, Tryd.ntmps21
    go_wp2
    go_ret2
    exact ⟨rfl, rfl⟩
  · obtain rfl : b = 64 := by omega
    have e : (2 : Int) ^ (64 : Int).toNat = 18446744073709551616 := by decide
    have ho : Pl.narrowOk u 64 = true := by unfold Pl.narrowOk; rw [e]; simp [Pl.isW]; omega
    have hv : Pl.narrowV u 64 = u := by simp [Pl.narrowV, ho]
    rw [ho, hv]; clear ho hv e
    go_enter Tryd.func21, Tryd.ntmps21
    go_wp2
    go_ret2
    exact ⟨rfl, rfl⟩
  · have hw : Pl.isW b = true := by simp [Pl.isW]; omega
    have hp := Pl.pow_pos b.toNat
    have HT := Lib.hid (fun w => two_any b (by omega) h' w)
    by_cases hu : u < 2 ^ b.toNat
    · have ho : Pl.narrowOk u b = true := by simp [Pl.narrowOk, hw, hu]
      have hv : Pl.narrowV u b = u := by simp [Pl.narrowV, ho]
      rw [ho, hv]; clear ho hv hw
      generalize (2 : Int) ^ b.toNat = K at *
      go_enter Tryd.func21, Tryd.ntmps21
      go_wp2_with (go_at_call 35; refine (HT.out _).mono ?_; rintro e w' ⟨rfl, rfl⟩)
      go_ret2
      exact ⟨rfl, rfl⟩
    · have ho : Pl.narrowOk u b = false := by simp [Pl.narrowOk, hu]
      have hv : Pl.narrowV u b = 0 := by simp [Pl.narrowV, ho]
      have hu' : 2 ^ b.toNat ≤ u := by omega
      rw [ho, hv]; clear ho hv hw hu
      generalize (2 : Int) ^ b.toNat = K at *
      go_enter Tryd.func21, Tryd.ntmps21
      go_wp2_with (go_at_call 35; refine (HT.out _).mono ?_; rintro e w' ⟨rfl, rfl⟩)
      go_ret2
      exact ⟨rfl, rfl⟩
theorem wide_64 (u : Int) : Pl.wideV u 64 = wrap64 u := by
  have e1 : (2 : Int) ^ (64 : Int).toNat = 18446744073709551616 := by decide
  have e2 : (2 : Int) ^ ((64 : Int).toNat - 1) = 9223372036854775808 := by decide
  have hw : Pl.isW 64 = true := by decide
  unfold Pl.wideV Pl.signed
  rw [if_pos hw, e1, e2]
  unfold wrap64
  split <;> omega
set_option maxHeartbeats 1000000 in
theorem refWide_mid (u b N H : Int) (h0 : 0 ≤ u) (_h1 : u < 18446744073709551616) (hb1 : 1 ≤ b) (hb2 : b ≤ 63) (hH : 1 ≤ H) (hH2 : H ≤ 4611686018427387904) (hN1 : 2 * H ≤ N) (hN2 : N ≤ 2 * H)
    (t1 : ∀ w, Calls Tryd.prog 35 #[.int .i64 b] w fun e' w' => e' = .returned (.int .u64 N) ∧ w = w')
    (t2 : ∀ w, Calls Tryd.prog 35 #[.int .i64 (b - 1)] w fun e' w' => e' = .returned (.int .u64 H) ∧ w = w') (w : World) :
    Calls Tryd.prog 30 #[.int .u64 u, .int .i64 b] w fun e' w' => e' = .returned (.int .i64 (if u % N < H then u % N else u % N - H - H)) ∧ w = w' := by
  have T1 := Lib.hid t1
  have T2 := Lib.hid t2
  clear t1 t2
  have hm0 := Int.emod_nonneg u (b := N) (by omega)
  have hm1 := Int.emod_lt_of_pos u (b := N) (by omega)
  have ht : u.tmod N = u % N := Int.tmod_eq_emod_of_nonneg h0
  generalize hM : u % N = M at *
  clear hM
  by_cases h : M < H
  · rw [if_pos h]
    go_enter Tryd.func30, Tryd.ntmps30
    go_wp2_with fail
    refine (T1.out _).mono ?_
    rintro e w' ⟨rfl, rfl⟩
    go_wp2_with (go_at_call 35; refine (T2.out _).mono ?_; rintro e w' ⟨rfl, rfl⟩)
    go_ret
    exact ⟨rfl, rfl⟩
  · rw [if_neg h]
    have h' : H ≤ M := by omega
    clear h
    go_enter Tryd.func30, Tryd.ntmps30
    go_wp2_with fail
    refine (T1.out _).mono ?_
    rintro e w' ⟨rfl, rfl⟩
    go_wp2_with (go_at_call 35; refine (T2.out _).mono ?_; rintro e w' ⟨rfl, rfl⟩)
    go_ret
    exact ⟨rfl, rfl⟩
set_option maxHeartbeats 400000 in
theorem refWide_any (u b : Int) (h0 : 0 ≤ u) (h1 : u < 18446744073709551616) (w : World) :
    Calls Tryd.prog 30 #[.int .u64 u, .int .i64 b] w fun e' w' => e' = .returned (.int .i64 (Pl.wideV u b)) ∧ w = w' := by
  have hc : b < 1 ∨ 64 < b ∨ (64 ≤ b ∧ b ≤ 64) ∨ (1 ≤ b ∧ b ≤ 63) := by omega
  rcases hc with h | h | ⟨h, h'⟩ | ⟨h, h'⟩
  · have hv : Pl.wideV u b = 0 := by unfold Pl.wideV; rw [if_neg (by simp [Pl.isW]; omega)]
    rw [hv]; clear hv
    go_enter Tryd.func30, Tryd.ntmps30
    go_wp2
    go_ret
    exact ⟨rfl, rfl⟩
  · have hv : Pl.wideV u b = 0 := by unfold Pl.wideV; rw [if_neg (by simp [Pl.isW]; omega)]
    rw [hv]; clear hv
    go_enter Tryd.func30, Tryd.ntmps30
    go_wp2
    go_ret
    exact ⟨rfl, rfl⟩
  · obtain rfl : b = 64 := by omega
    rw [wide_64 u]
    go_enter Tryd.func30, Tryd.ntmps30
    go_wp2
    go_ret
    exact ⟨rfl, rfl⟩
  · have hw : Pl.isW b = true := by simp [Pl.isW]; omega
    obtain ⟨_, p2, p3⟩ := Pl.half_wrap b h h'
    have hh := Pl.pow_half b.toNat (by omega)
    have e1 : (b - 1).toNat = b.toNat - 1 := by omega
    have T2 := fun w => two_any (b - 1) (by omega) (by omega) w
    rw [e1] at T2
    have hv : Pl.wideV u b = if u % 2 ^ b.toNat < 2 ^ (b.toNat - 1) then u % 2 ^ b.toNat else u % 2 ^ b.toNat - 2 ^ (b.toNat - 1) - 2 ^ (b.toNat - 1) := by
      unfold Pl.wideV Pl.signed
      rw [if_pos hw]
      by_cases hlt : u % 2 ^ b.toNat < 2 ^ (b.toNat - 1)
      · rw [if_pos hlt, if_pos hlt]
      · rw [if_neg hlt, if_neg hlt]; omega
    rw [hv]
    exact refWide_mid u b _ _ h0 h1 h h' p2 p3 (by omega) (by omega) (fun w => two_any b (by omega) h' w) T2 w
end Go.Proofs.YtcpihfieinnmkaaDoor
