/-
  The law EncShort: a number takes a byte for each seven bits, a smaller number not more, and different numbers have different encodings.
-/
import Derived.Test.YthenjipljkphiaaEncAwake
import Derived.Deep.QuietTactic
import Derived.BigQuiet
namespace Go.Proofs.Ythenjipljkphiaa
open Go.RowKit
/-- The bytes behind the first one. -/
def cnt (u : Int) : Nat := if u = 0 then 0 else (En.leb u).length
theorem leb_cnt (u : Int) (h : 0 ≤ u) : (En.leb u).length = 1 + cnt (u / 128) := by
  unfold cnt
  by_cases h1 : u < 128
  · rw [En.leb_small u h h1, if_pos (by omega)]; rfl
  · rw [En.leb_big u (by omega), if_neg (by omega), List.length_cons]; omega
theorem cnt_step (u : Int) (h : 0 < u) : cnt u = 1 + cnt (u / 128) := by
  rw [← leb_cnt u (by omega)]; unfold cnt; rw [if_neg (by omega)]
theorem cnt_zero : cnt 0 = 0 := by unfold cnt; rw [if_pos rfl]
theorem str_inj {xs ys : List Int} (hx : En.Byte xs) (hy : En.Byte ys) (h : strOfNums xs = strOfNums ys) : xs = ys := by
  have h1 : (strOfNums xs).data.toList = (strOfNums ys).data.toList := by rw [h]
  rw [strOfNums_data, strOfNums_data] at h1
  have key : ∀ zs : List Int, En.Byte zs → (zs.map fun n => UInt8.ofNat n.toNat).map (fun c => (c.toNat : Int)) = zs := by
    intro zs hz
    rw [List.map_map]
    refine (List.map_congr_left (g := id) ?_).trans (List.map_id zs)
    intro z hm
    have := hz z hm
    simp
    omega
  rw [← key xs hx, h1, key ys hy]
theorem str_beq {s t : ByteArray} (h : s ≠ t) : (s.toList == t.toList) = false := by
  rw [beq_eq_false_iff_ne]
  intro e
  apply h
  rw [ByteArray.toList_eq, ByteArray.toList_eq] at e
  cases s; cases t
  exact congrArg ByteArray.mk (Array.toList_inj.1 e)
set_option maxHeartbeats 2000000 in
theorem short_walk (a b : Int) (a0 : 0 ≤ a) (a1 : a < 18446744073709551616) (b0 : 0 ≤ b) (b1 : b < 18446744073709551616) (w : World) :
    Calls Try.prog 6 #[.int .u64 a, .int .u64 b] w fun e w' => e = .returned (.bool true) ∧ Below w.heap.size w w' := by
  go_enter Try.func6, Try.ntmps6
  go_wp2_with fail
  refine (awake_any _).mono ?_; rintro e w1 ⟨rfl, hb1⟩
  have HB1 := Lib.hid hb1
  clear hb1
  go_wp2_with fail
  refine (outU_any a a0 a1 (w1.heap.size + 1 + 1) w1.heap.size [] (by decide) _ ?_).mono ?_
  · exact (OutOwn.start (alloc_obj (heap_alloc_new w1 _) _) (by simp)).at_
  rintro e w3 ⟨rfl, hp⟩
  have HP := Lib.hid hp
  have hy3 := (HP.out.2.block (w1.heap.size + 1) (by omega) (by omega)).trans (show _ = some (.cells #[.slice none 0 0] 26 (0, 0)) from by
    have h := heap_alloc_new (w1.alloc (.cells #[.slice none 0 0] 26)) (.cells #[.slice none 0 0] 26)
    have e : (w1.alloc (.cells #[.slice none 0 0] 26)).heap.size = w1.heap.size + 1 := by simp
    rw [e] at h
    exact h)
  have HY := Lib.hid hy3
  clear hp hy3
  go_wp2_with fail
  refine (outU_any b b0 b1 w3.heap.size (w1.heap.size + 1) [] (by decide) _ (OutOwn.start HY.out (Nat.le_refl _)).at_).mono ?_
  rintro e w4 ⟨rfl, hq⟩
  have HQ := Lib.hid hq
  have HX := Lib.hid (HP.out.1.keep HQ.out.2 (Nat.le_refl _) HY.out (by decide) (by omega))
  clear hq
  have hs3 : w1.heap.size + 1 + 1 ≤ w3.heap.size := by have := HP.out.2.size; simp at this; omega
  have hbl : Below w.heap.size w w4 := by
    have hs1 := HB1.out.size
    exact (((HB1.out.alloc hs1 _).alloc (by simp; omega) _).trans (HP.out.2.below (by omega) hs1)).trans (HQ.out.2.below (by omega) (by omega))
  have HBL := Lib.hid hbl
  clear hbl
  obtain ⟨A1, cap1, ho1, _, hr1⟩ := HX.out
  obtain ⟨A2, cap2, ho2, _, hr2⟩ := HQ.out.1
  rw [List.nil_append] at ho1 hr1 ho2 hr2
  obtain ⟨c1, _⟩ := obj1 ho1
  obtain ⟨c2, _⟩ := obj1 ho2
  have B1 := Lib.hid hr1.bytes
  have B2 := Lib.hid hr2.bytes
  clear ho1 ho2 hr1 hr2
  have LC := Lib.hid (leb_cnt a a0)
  go_wp2
  go_loop [7, 8] (fun n v => ∃ (k : Nat) (u : Int), 0 ≤ u ∧ u < 18446744073709551616 ∧ k ≤ 100 ∧ n = .int .i64 k ∧ v = .int .u64 u ∧ k + cnt u = (En.leb a).length) (fun _ v => (intOf v).toNat)
  case atStart => exact ⟨1, a / 128, by omega, by omega, by omega, rfl, rfl, LC.out.symm⟩
  case round =>
    obtain ⟨k, u, u0, u1, k1, rfl, rfl, hcn⟩ := hrel
    have HC := Lib.hid hcn
    clear hcn
    have hla := En.leb_len a a0 a1
    by_cases hu : 0 < u
    · have CS := Lib.hid (cnt_step u hu)
      have hk : k + 1 ≤ 100 := by have := HC.out; have := CS.out; omega
      go_wp2
      go_round
      case rel => exact ⟨k + 1, u / 128, by omega, by omega, hk, by go_num, rfl, by have := HC.out; have := CS.out; omega⟩
      case measure => simp [intOf]; omega
    · obtain rfl : u = 0 := by omega
      have hk : k = (En.leb a).length := by have := HC.out; rw [cnt_zero] at this; omega
      subst hk
      clear hu k1 u0 u1
      have CS1 := fun n => conv_str (w := w4.drewN n) (B1.out.keep fun _ _ _ => rfl) cap1
      have CS2 := fun n => conv_str (w := w4.drewN n) (B2.out.keep fun _ _ _ => rfl) cap2
      have L1 : (En.leb a).length ≤ 10 := hla
      have L2 := En.leb_len b b0 b1
      have LM := Lib.hid (fun h => En.leb_mono a b a0 h)
      have SI := Lib.hid (fun h => En.leb_inj a b a0 a1 b0 b1 (str_inj (En.leb_bytes a a0) (En.leb_bytes b b0) h))
      clear HC LC B1 B2 HX HQ HP HY HB1 hla
      by_cases hab : a = b
      · subst hab
        generalize strOfNums (En.leb a) = s at *
        generalize En.leb a = l at *
        go_wp2
        go_quiet (fail)
        go_wp2
        go_ret
        exact ⟨rfl, below_n HBL.out _⟩
      · have hne : strOfNums (En.leb a) ≠ strOfNums (En.leb b) := fun h => hab (SI.out h)
        have hba : b < a ∨ (a ≤ b ∧ (En.leb a).length ≤ (En.leb b).length) := by
          by_cases h : b < a
          · exact .inl h
          · exact .inr ⟨by omega, LM.out (by omega)⟩
        generalize strOfNums (En.leb a) = s at *
        generalize strOfNums (En.leb b) = t at *
        generalize En.leb a = l at *
        generalize En.leb b = m at *
        have hne3 : (s.toList == t.toList) = false := str_beq hne
        clear hne SI LM
        rcases hba with hba | ⟨hba, hlm⟩
        · go_wp2
          go_quiet (fail)
          go_wp2
          go_ret
          exact ⟨ret_bool (by simp [hab]), below_n HBL.out _⟩
        · go_wp2
          go_quiet (fail)
          go_wp2
          go_ret
          exact ⟨ret_bool (by simp [hab]), below_n HBL.out _⟩
end Go.Proofs.Ythenjipljkphiaa
