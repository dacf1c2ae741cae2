/-
  The law FrameAll: further bytes do not change the records that All tells first.
-/
import Derived.Test.YtgjjpehelhdfdaaFrAwake
import Derived.Test.YtgjjpehelhdfdaaFrRefAll
namespace Go.Proofs.Ytgjjpehelhdfdaa
open Go.RowKit
def AllN (w : World) (l : List Fr.Rc) (k n : Nat) (er : Int) (e : Ending) (w' : World) : Prop :=
  ∃ A cap, e = .returned (.tuple #[.slice A k cap, .int .i64 (n : Int), .int .i64 er]) ∧ Hid (OwnR w' w.heap.size A cap l) ∧ Hid (Below w.heap.size w w')
theorem all_at (A : Option Addr) (zs : List Int) (l : List Fr.Rc) (m k n cap : Nat) (er : Int) (hm : m = zs.length) (h : Fr.allV zs = (l, n, er)) (hk : l.length = k) (hl : zs.length ≤ 1000000000) (hc : zs.length ≤ cap) (w : World) (hb : Bytes w w.heap.size A zs) :
    Calls Try.prog 12 #[.slice A m cap] w (AllN w l k n er) := by
  subst hm hk
  refine (all_any A zs cap hl hc w hb).mono ?_
  rintro e w' ⟨l', A2, cap2, h1, rfl, ho, hg⟩
  have e1 : l = l' := by rw [← h1.out, h]
  subst e1
  exact ⟨A2, cap2, by rw [h], Lib.hid ho, Lib.hid hg⟩
set_option maxHeartbeats 1000000 in
theorem fall_off (A1 A2 : Option Addr) (n m cap1 cap2 : Nat) (h : 800 < n ∨ (n ≤ 800 ∧ 800 < m)) (w : World) :
    Calls Try.prog 8 #[.slice A1 n cap1, .slice A2 m cap2] w fun e w' => e = .returned (.bool true) ∧ Below w.heap.size w w' := by
  rcases h with h | ⟨h1, h2⟩
  · have h' : (800 : Int) < (n : Int) := by omega
    go_enter Try.func8, Try.ntmps8
    go_wp2_with fail
    refine (awake_any _).mono ?_; rintro e w1 ⟨rfl, hb1⟩
    go_wp2
    go_ret
    exact ⟨rfl, hb1⟩
  · have h1' : (n : Int) ≤ 800 := by omega
    have h2' : (800 : Int) < (m : Int) := by omega
    go_enter Try.func8, Try.ntmps8
    go_wp2_with fail
    refine (awake_any _).mono ?_; rintro e w1 ⟨rfl, hb1⟩
    go_wp2
    go_ret
    exact ⟨rfl, hb1⟩
set_option maxHeartbeats 4000000 in
theorem fall_core (A1 A2 : Option Addr) (a b : List Int) (cap1 cap2 : Nat) (l1 l2 l : List Fr.Rc) (k1 k2 n1 n2 : Nat) (e1 e2 : Int) (h1 : a.length ≤ 800) (h2 : b.length ≤ 800) (hc1 : a.length ≤ cap1)
    (hv1 : Fr.allV a = (l1, n1, e1)) (hv2 : Fr.allV (a ++ b) = (l2, n2, e2)) (hk1 : l1.length = k1) (hk2 : l2.length = k2) (hl : l2 = l1 ++ l) (hn : n1 ≤ n2) (hna : n1 ≤ a.length) (he0 : (e1 == 0) = false ∨ (e1 = 0 ∧ n1 = a.length)) (he6 : (e1 != 6) = true)
    (w : World) (ha : Bytes w w.heap.size A1 a) (hb : Bytes w w.heap.size A2 b) :
    Calls Try.prog 8 #[.slice A1 a.length cap1, .slice A2 b.length cap2] w fun e w' => e = .returned (.bool true) ∧ Below w.heap.size w w' := by
  have h1' : (a.length : Int) ≤ 800 := by omega
  have h2' : (b.length : Int) ≤ 800 := by omega
  have hkk : k1 ≤ k2 := by rw [← hk1, ← hk2, hl, List.length_append]; omega
  have kk' : (k1 : Int) ≤ (k2 : Int) := by omega
  have hn' : (n1 : Int) ≤ (n2 : Int) := by omega
  have hna' : (n1 : Int) ≤ (a.length : Int) := by omega
  have HA := Lib.hid ha
  have HB := Lib.hid hb
  have V1 := Lib.hid hv1
  have V2 := Lib.hid hv2
  have K1 := Lib.hid hk1
  have K2 := Lib.hid hk2
  have HL := Lib.hid hl
  have HC := Lib.hid hc1
  have hkb : (k1 : Int) ≤ 800 := by
    have hh := Fr.allV_len a ha.byte
    rw [hv1] at hh
    have := hh.1
    simp only [] at this
    omega
  clear ha hb hv1 hv2 hk1 hk2 hl hc1 hkk
  go_enter Try.func8, Try.ntmps8
  go_wp2_with fail
  refine (awake_any _).mono ?_; rintro e w1 ⟨rfl, hb1⟩
  have B1 := Lib.hid hb1
  clear hb1
  go_wp2_with fail
  refine (all_at A1 a l1 _ k1 n1 cap1 e1 rfl V1.out K1.out (by omega) HC.out _ ((HA.out.below B1.out).more B1.out.size)).mono ?_; rintro e w2 ⟨A3, c3, rfl, o3, b3⟩
  have B2 := Lib.hid (below_on B1.out b3.out)
  clear b3
  go_wp2_with (first
    | (at_builtin; refine wp_app rfl (.tmp 29) (.tmp 30) rfl rfl rfl (OwnB.start w2 w2.heap.size (Nat.le_refl _)) (by simp) rfl rfl ((HA.out.below B2.out).below ((Below.refl _ _).alloc B2.out.size _)) (by simp; omega) ?_; intro A4 c4 w4 o4 d4; rw [List.nil_append] at o4; have O4 := Lib.hid o4; have D4 := Lib.hid (((Below.refl w2.heap.size w2).alloc (Nat.le_refl _) (.cells #[] 5)).trans d4.below); have B4 := Lib.hid (below_on B2.out D4.out); clear o4 d4)
    | (at_builtin; refine wp_app rfl (.tmp 31) (.tmp 32) rfl rfl rfl O4.out D4.out.size rfl rfl (HB.out.below B4.out) (by omega) ?_; intro A5 c5 w5 o5 d5; have O5 := Lib.hid o5; have D5 := Lib.hid (D4.out.trans d5.below); have B5 := Lib.hid (below_on B2.out D5.out); clear o5 d5)
    | fail)
  refine (all_at _ (a ++ b) l2 _ k2 n2 c5 e2 (by simp) V2.out K2.out (by rw [List.length_append]; omega) O5.out.cap_ _ O5.out.bytes).mono ?_; rintro e w6 ⟨A6, c6, rfl, o6, b6⟩
  have B6 := Lib.hid (below_on B5.out b6.out)
  have R1 := Lib.hid ((o3.out.grew D5.out (Nat.le_refl _)).grew b6.out (Nat.le_refl _))
  clear o3 b6 O4 O5 D4 D5 B4 B5
  rcases he0 with he0 | ⟨he0, he1⟩
  all_goals
    first | (subst he0 he1) | skip
    go_wp2_with fail
    go_loopw [11] (fun iv wr => ∃ i : Nat, i ≤ k1 ∧ iv = .int .i64 i ∧ Below w6.heap.size w6 wr) (fun iv _ => k1 - (intOf iv).toNat)
    case atStart => exact ⟨0, Nat.zero_le _, rfl, Below.refl _ _⟩
    case round =>
      obtain ⟨i, hi, rfl, hbel⟩ := hrel
      have HW := Lib.hid hbel
      clear hbel
      by_cases hlt : i < k1
      · have hlt' : (i : Int) < (k1 : Int) := by omega
        have hlt2 : (i : Int) < (k2 : Int) := by omega
        have R1' := R1.out.grew HW.out (Nat.le_refl _)
        have R2' := o6.out.grew HW.out (Nat.le_refl _)
        obtain ⟨g, A7, c7, at_, p, rfl, hg, x0, x1, hbp, hep⟩ := R1'.at_ (i := i) (by rw [K1.out]; exact hlt)
        obtain ⟨g2, A8, c8, at2, p2, rfl, hg2, y0, y1, hbp2, hep2⟩ := R2'.at_ (i := i) (by rw [K2.out]; omega)
        have ee : ((at_, p) : Fr.Rc) = (at2, p2) := by
          rw [← hep.out, ← hep2.out, HL.out, List.getD_eq_getElem?_getD, List.getD_eq_getElem?_getD, List.getElem?_append_left (by rw [K1.out]; exact hlt)]
        injection ee with ee1 ee2
        subst ee1 ee2
        clear R1' R2' hep hep2
        have cv1 := fun n => conv_str (w := wr.drewN n) (hbp.out.keep fun _ _ _ => rfl) c7
        have cv2 := fun n => conv_str (w := wr.drewN n) (hbp2.out.keep fun _ _ _ => rfl) c8
        generalize strOfNums p = st at *
        go_wp2_with fail
        go_quiet (fail)
        go_wp2
        go_roundw
        case rel => exact ⟨i + 1, by omega, by go_num, below_n HW.out _⟩
        case measure => simp [intOf]; omega
      · have hlt' : (k1 : Int) ≤ (i : Int) := by omega
        go_wp2
        go_ret
        exact ⟨rfl, below_on B6.out HW.out⟩
theorem fall_walk (A1 A2 : Option Addr) (a b : List Int) (cap1 cap2 : Nat) (hc1 : a.length ≤ cap1) (w : World) (ha : Bytes w w.heap.size A1 a) (hb : Bytes w w.heap.size A2 b) :
    Calls Try.prog 8 #[.slice A1 a.length cap1, .slice A2 b.length cap2] w fun e w' => e = .returned (.bool true) ∧ Below w.heap.size w w' := by
  by_cases h : a.length ≤ 800 ∧ b.length ≤ 800
  · obtain ⟨⟨l, hl⟩, hn⟩ := Fr.allV_more b _ a (Nat.le_refl _) ha.byte
    obtain ⟨_, g2, g3, g4, _, _⟩ := Fr.allV_len a ha.byte
    refine fall_core A1 A2 a b cap1 cap2 (Fr.allV a).1 (Fr.allV (a ++ b)).1 l _ _ (Fr.allV a).2.1 (Fr.allV (a ++ b)).2.1 (Fr.allV a).2.2 (Fr.allV (a ++ b)).2.2 h.1 h.2 hc1 rfl rfl rfl rfl hl hn g2 ?_ (by simpa using g4) w ha hb
    by_cases h0 : (Fr.allV a).2.2 = 0
    · exact .inr ⟨h0, g3 h0⟩
    · exact .inl (by simpa using h0)
  · exact fall_off A1 A2 _ _ cap1 cap2 (by omega) w
end Go.Proofs.Ytgjjpehelhdfdaa
