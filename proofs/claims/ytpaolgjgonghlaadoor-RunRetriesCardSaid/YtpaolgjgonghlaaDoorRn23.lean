/-
  Part 23 of the texts behind the law: NumRef.
-/
import Derived.Test.YtpaolgjgonghlaaDoorRn3
import Derived.Lib.ItoaNum
import Derived.Deep.RegionWith
/-
  The reference's two functions that write a number's digits, at every number from 0 on.
-/
namespace Go.Proofs.YtpaolgjgonghlaaDoor
open Go.RowKit
namespace Nu
open Go.Lib
def txt (l : List UInt8) : ByteArray := ⟨l.toArray⟩
theorem txt_app (a b : List UInt8) : txt a ++ txt b = txt (a ++ b) := by
  apply ByteArray.ext
  rw [ByteArray.data_append]
  simp [txt]
theorem txt_size (l : List UInt8) : (txt l).size = l.length := by simp [txt, ByteArray.size]
theorem txt_back (s : ByteArray) : txt s.data.toList = s := by cases s; simp [txt]
theorem dig_nat {d : Nat} (h : d < 10) : (UInt8.ofNat (48 + d)).toNat = 48 + d := by
  rw [UInt8.toNat_ofNat']; omega
theorem dec_small {n : Nat} (h : n < 10) : decDigits n = [UInt8.ofNat (48 + n)] := by rw [decDigits, dif_pos h]
theorem dec_big {n : Nat} (h : ¬ n < 10) : decDigits n = decDigits (n / 10) ++ [UInt8.ofNat (48 + n % 10)] := by rw [decDigits, dif_neg h]
theorem dec_len : ∀ (k n : Nat), 0 < k → n < 10 ^ k → (decDigits n).length ≤ k := by
  intro k
  induction k with
  | zero => intro n h; omega
  | succ k ih =>
    intro n _ hn
    by_cases h : n < 10
    · rw [dec_small h]; simp
    · rw [dec_big h, List.length_append]
      have hk : 0 < k := by
        rcases Nat.eq_zero_or_pos k with e | e
        · subst e; simp at hn; omega
        · exact e
      have := ih (n / 10) hk (by rw [Nat.pow_succ] at hn; omega)
      simp only [List.length_singleton]; omega
end Nu
def digB2 (m : Nat) : UInt8 := UInt8.ofNat (48 + m)
theorem convd (m : Nat) (hm : m < 10) (W : World) (b : Nat) (hc : W.cell? ⟨b, 0, none⟩ = some (.int .u8 (48 + (m : Int)))) :
    (convert 89 9 (.slice (some ⟨b, 0, none⟩) 1 1)).run Tryd.prog W = .ok (.string (Nu.txt [digB2 m])) W := by
  have h := run_convert_bytes_back (P := Tryd.prog) W 89 9 5 ⟨b, 0, none⟩ 1 [UInt8.ofNat (48 + m)] Tryd.underlying89 Tryd.underlying5 Tryd.underlying9 (fun j hj => by
    obtain rfl : j = 0 := by simpa using hj
    show W.cell? ⟨b, 0, none⟩ = _
    rw [hc, List.getElem_cons_zero, Nu.dig_nat hm]; push_cast; rfl)
  exact h
theorem bcell2 {W w1 : World} (hb : Below W.heap.size W w1) : ∀ b o, b < W.heap.size → w1.cell? ⟨b, o, none⟩ = W.cell? ⟨b, o, none⟩ := fun b o h => hb.cell (p := ⟨b, o, none⟩) h
set_option maxHeartbeats 400000 in
theorem num10_small (n : Nat) (h : n < 10) (w : World) :
    Calls Tryd.prog 30 #[.int .i64 n] w fun e w' => e = .returned (.string (Nu.txt (Lib.decDigits n))) ∧ Below w.heap.size w w' := by
  have hd := Lib.hid (Nu.dec_small h)
  have hcv := convd n h
  go_enter Tryd.func30, Tryd.ntmps30
  go_wp2
  go_ret
  rw [hd.out]
  exact ⟨rfl, (Below.refl _ _).alloc (Nat.le_refl _) _⟩
set_option maxHeartbeats 1000000 in
theorem num10_big (n q m : Nat) (h : 10 ≤ n) (h2 : n < 9223372036854775808) (hm : m < 10) (hq : (n : Int) / 10 = (q : Int)) (hr : (n : Int) % 10 = (m : Int)) (A : ByteArray) (hs1 : A.size ≤ 30) (w : World)
    (ih : ∀ w, Calls Tryd.prog 30 #[.int .i64 (q : Int)] w fun e w' => e = .returned (.string A) ∧ Below w.heap.size w w') :
    Calls Tryd.prog 30 #[.int .i64 n] w fun e w' => e = .returned (.string (A ++ Nu.txt [digB2 m])) ∧ Below w.heap.size w w' := by
  have IH := Lib.hid ih
  clear ih
  have hcv := convd m hm
  have hs2 : (Nu.txt [digB2 m]).size ≤ 1 := Nat.le_refl 1
  generalize hB : Nu.txt [digB2 m] = B at *
  clear hB
  have t0 : (n : Int).tdiv 10 = (q : Int) := by rw [Int.tdiv_eq_ediv_of_nonneg (by omega)]; exact hq
  have t1 : IntKind.i64.wrap (q : Int) = (q : Int) := IntWalk.i64_in _ (by omega)
  have t2 : (n : Int).tmod 10 = (m : Int) := by rw [Int.tmod_eq_emod_of_nonneg (by omega)]; exact hr
  have t3 : IntKind.i64.wrap (48 + (m : Int)) = 48 + (m : Int) := IntWalk.i64_in _ (by omega)
  have t4 : IntKind.u8.wrap (48 + (m : Int)) = 48 + (m : Int) := IntWalk.u8_in _ (by omega)
  clear hr
  go_enter Tryd.func30, Tryd.ntmps30
  go_wp2_with fail
  go_region_with (go_at_call 30; refine (IH.out _).mono ?_; rintro e w1 ⟨rfl, hb1⟩; have hk := bcell2 hb1; have hz := hb1.size)
  all_goals go_wp2
  all_goals go_ret
  · exact ⟨rfl, ((Below.refl _ w).drew.trans hb1).alloc hz _⟩
  · exact ⟨rfl, ((Below.refl _ w).drew.alloc (Nat.le_refl _) _).trans (hb1.mono (by simp))⟩
  · exact ⟨rfl, ((Below.refl _ w).drew.alloc (Nat.le_refl _) _).trans (hb1.mono (by simp))⟩
theorem num10_nat (n : Nat) : n < 9223372036854775808 → ∀ w, Calls Tryd.prog 30 #[.int .i64 n] w fun e w' => e = .returned (.string (Nu.txt (Lib.decDigits n))) ∧ Below w.heap.size w w' := by
  induction n using Nat.strongRecOn with
  | ind n ih =>
    intro h2 w
    by_cases h : n < 10
    · exact num10_small n h w
    · have hl : (Nu.txt (Lib.decDigits (n / 10))).size ≤ 30 := by
        rw [Nu.txt_size]
        have p : n / 10 < 10 ^ 30 := by
          have : (18446744073709551616 : Nat) ≤ 10 ^ 30 := by decide
          omega
        exact Nu.dec_len 30 (n / 10) (by decide) p
      have := num10_big n (n / 10) (n % 10) (by omega) h2 (by omega) (by omega) (by omega) (Nu.txt (Lib.decDigits (n / 10))) hl w (ih (n / 10) (by omega) (by omega))
      rw [Nu.txt_app] at this
      rw [Nu.dec_big h]
      exact this
theorem num10_any (n : Int) (h0 : 0 ≤ n) (h1 : n < 9223372036854775808) (w : World) :
    Calls Tryd.prog 30 #[.int .i64 n] w fun e w' => e = .returned (.string (Nu.txt (Lib.decDigits n.toNat))) ∧ Below w.heap.size w w' := by
  obtain ⟨m, rfl⟩ := Int.eq_ofNat_of_zero_le h0
  exact num10_nat m (by omega) w
end Go.Proofs.YtpaolgjgonghlaaDoor
