/-
  The law StoreSwaps, walked.
-/
import Derived.Test.YtdfehdaeeigofaaStoCuts
namespace Go.Proofs.Ytdfehdaeeigofaa
open Go.RowKit St

def oldN : List UInt8 := [111, 108, 100]
def newN : List UInt8 := [110, 101, 119]
def o1 (zs : List Int) (fuse : Nat) (keep : List Int) (off : Bool) : S := ⟨1000, [⟨[111, 108, 100], zs, zs.length⟩], off, fuse, keep⟩
def o2 (b a : List Int) (k fuse : Nat) (keep : List Int) (off : Bool) : S := ⟨1000, [⟨[110, 101, 119], b, k⟩, ⟨[111, 108, 100], a, a.length⟩], off, fuse, keep⟩
section
variable (a b : List Int) (f : Nat) (K ks : List Int)
theorem sw_app_e (h : a.length ≤ 1000) : appE (s0 1000) [111, 108, 100] a.length = 0 := by
  unfold appE
  rw [if_neg (show ¬ chk (s0 1000) [[111, 108, 100]] ≠ 0 from fun h => h rfl), if_neg]
  rintro (h1 | h1)
  · have h1 : 1000 - 0 < a.length := h1
    omega
  · exact absurd h1.2 (by show ¬ 64 ≤ 0; omega)
theorem sw_app_E (h : a.length ≤ 1000) : actE (s0 1000) (appE (s0 1000) [111, 108, 100] a.length) = 0 := by rw [sw_app_e a h]; rfl
theorem sw_app_S (h : a.length ≤ 1000) : actS (s0 1000) (appE (s0 1000) [111, 108, 100] a.length) (appL (s0 1000) [111, 108, 100] a) = ⟨1000, [⟨[111, 108, 100], a, 0⟩], false, 0, []⟩ := by rw [sw_app_e a h]; rfl
theorem sw_sync_E : actE ⟨1000, [⟨[111, 108, 100], a, 0⟩], false, 0, []⟩ (fnd ⟨1000, [⟨[111, 108, 100], a, 0⟩], false, 0, []⟩ [111, 108, 100] [[111, 108, 100], [111, 108, 100]]) = 0 := rfl
theorem sw_sync_S : actS ⟨1000, [⟨[111, 108, 100], a, 0⟩], false, 0, []⟩ (fnd ⟨1000, [⟨[111, 108, 100], a, 0⟩], false, 0, []⟩ [111, 108, 100] [[111, 108, 100], [111, 108, 100]]) (swapL ⟨1000, [⟨[111, 108, 100], a, 0⟩], false, 0, []⟩ [111, 108, 100] [111, 108, 100]) = o1 a 0 [] false := rfl
theorem sw_fuse (n : Int) (h : 1 ≤ n) : fuseS (o1 a 0 [] false) n ks = o1 a n.toNat (ks.take 64) false := by
  unfold fuseS
  rw [if_neg (show ¬ (o1 a 0 [] false).off = true from fun h => by cases h), if_neg (by omega)]
  rfl
theorem sw_app2_e (h : a.length + b.length ≤ 1000) : appE (o1 a f K false) [110, 101, 119] b.length = 0 := by
  unfold appE
  rw [if_neg (show ¬ chk (o1 a f K false) [[110, 101, 119]] ≠ 0 from fun h => h rfl), if_neg]
  rintro (h1 | h1)
  · have h1 : 1000 - a.length < b.length := h1
    omega
  · exact absurd h1.2 (by show ¬ 64 ≤ 1; omega)
theorem sw_crash1 : crash (o1 a f K false) ks = o1 a 0 [] true := by
  unfold crash
  rw [if_neg (show ¬ (o1 a f K false).off = true from fun h => by cases h)]
  show S.mk 1000 (crashL [⟨[111, 108, 100], a, a.length⟩] ks) true 0 [] = _
  rw [crashL, if_pos rfl]
  rfl
theorem sw_crash2 : ∃ z k, crash (o2 b a 0 f K false) ks = o2 z a k 0 [] true := by
  unfold crash
  rw [if_neg (show ¬ (o2 b a 0 f K false).off = true from fun h => by cases h)]
  show ∃ z k, S.mk 1000 (crashL [⟨[110, 101, 119], b, 0⟩, ⟨[111, 108, 100], a, a.length⟩] ks) true 0 [] = _
  rw [crashL]
  split
  · rw [crashL, if_pos rfl]; exact ⟨_, _, rfl⟩
  · rw [crashL, if_pos rfl]; exact ⟨_, _, rfl⟩
theorem sw_app2_E1 (h : a.length + b.length ≤ 1000) : actE (o1 a 1 K false) (appE (o1 a 1 K false) [110, 101, 119] b.length) = 11 := by rw [sw_app2_e a b 1 K h]; rfl
theorem sw_app2_S1 (h : a.length + b.length ≤ 1000) : actS (o1 a 1 K false) (appE (o1 a 1 K false) [110, 101, 119] b.length) (appL (o1 a 1 K false) [110, 101, 119] b) = o1 a 0 [] true := by
  rw [sw_app2_e a b 1 K h, actS_blow rfl rfl]
  exact sw_crash1 a 0 K K
theorem sw_app2_E (hf : f ≠ 1) (h : a.length + b.length ≤ 1000) : actE (o1 a f K false) (appE (o1 a f K false) [110, 101, 119] b.length) = 0 := by rw [sw_app2_e a b f K h, actE_ok rfl hf]
theorem sw_app2_S (hf : f ≠ 1) (h : a.length + b.length ≤ 1000) : actS (o1 a f K false) (appE (o1 a f K false) [110, 101, 119] b.length) (appL (o1 a f K false) [110, 101, 119] b) = o2 b a 0 (f - 1) K false := by
  rw [sw_app2_e a b f K h, actS_ok rfl hf]
  rfl
theorem sw_swap_E1 : actE (o2 b a 0 1 K false) (fnd (o2 b a 0 1 K false) [110, 101, 119] [[111, 108, 100], [110, 101, 119]]) = 11 := rfl
theorem sw_swap_S1 : ∃ z k, actS (o2 b a 0 1 K false) (fnd (o2 b a 0 1 K false) [110, 101, 119] [[111, 108, 100], [110, 101, 119]]) (swapL (o2 b a 0 1 K false) [110, 101, 119] [111, 108, 100]) = o2 z a k 0 [] true := by
  rw [show fnd (o2 b a 0 1 K false) [110, 101, 119] [[111, 108, 100], [110, 101, 119]] = 0 from rfl, actS_blow rfl rfl]
  exact sw_crash2 a b 0 K K
theorem sw_swap_E (hf : f ≠ 1) : actE (o2 b a 0 f K false) (fnd (o2 b a 0 f K false) [110, 101, 119] [[111, 108, 100], [110, 101, 119]]) = 0 := actE_ok rfl hf
theorem sw_swap_S (hf : f ≠ 1) : actS (o2 b a 0 f K false) (fnd (o2 b a 0 f K false) [110, 101, 119] [[111, 108, 100], [110, 101, 119]]) (swapL (o2 b a 0 f K false) [110, 101, 119] [111, 108, 100]) = o1 b (f - 1) K false := by
  rw [show fnd (o2 b a 0 f K false) [110, 101, 119] [[111, 108, 100], [110, 101, 119]] = 0 from rfl, actS_ok rfl hf]
  rfl
theorem sw_off1 : crash (o1 a 0 [] true) ks = o1 a 0 [] true := rfl
theorem sw_off2 (k : Nat) : crash (o2 b a k 0 [] true) ks = o2 b a k 0 [] true := rfl
end
set_option maxRecDepth 20000 in
set_option maxHeartbeats 4000000 in
theorem swaps_off (A1 A2 A3 : Option Addr) (n1 n2 n3 cap1 cap2 cap3 : Nat) (k : Int) (h : 200 < n1 ∨ (n1 ≤ 200 ∧ (200 < n2 ∨ (n2 ≤ 200 ∧ (5 < n3 ∨ (n3 ≤ 5 ∧ k < 1)))))) (w : World) :
    Calls Try.prog 7 #[.slice A1 n1 cap1, .slice A2 n2 cap2, .int .i64 k, .slice A3 n3 cap3] w fun e w' => e = .returned (.bool true) ∧ Below w.heap.size w w' := by
  rcases h with h | ⟨g1, h | ⟨g2, h | ⟨g3, h⟩⟩⟩
  · have h' : (200 : Int) < (n1 : Int) := by omega
    clear h
    go_enter Try.func7, Try.ntmps7
    go_wp2_with fail
    refine (awake_any _).mono ?_; rintro e w1 ⟨rfl, hb1⟩
    have B1 := Lib.hid hb1
    clear hb1
    go_wp2
    go_ret
    exact ⟨rfl, B1.out⟩
  · have g1' : ¬ (200 : Int) < (n1 : Int) := by omega
    have h' : (200 : Int) < (n2 : Int) := by omega
    clear h g1
    go_enter Try.func7, Try.ntmps7
    go_wp2_with fail
    refine (awake_any _).mono ?_; rintro e w1 ⟨rfl, hb1⟩
    have B1 := Lib.hid hb1
    clear hb1
    go_wp2
    go_ret
    exact ⟨rfl, B1.out⟩
  · have g1' : ¬ (200 : Int) < (n1 : Int) := by omega
    have g2' : ¬ (200 : Int) < (n2 : Int) := by omega
    have h' : (5 : Int) < (n3 : Int) := by omega
    clear h g1 g2
    go_enter Try.func7, Try.ntmps7
    go_wp2_with fail
    refine (awake_any _).mono ?_; rintro e w1 ⟨rfl, hb1⟩
    have B1 := Lib.hid hb1
    clear hb1
    go_wp2
    go_ret
    exact ⟨rfl, B1.out⟩
  · have g1' : ¬ (200 : Int) < (n1 : Int) := by omega
    have g2' : ¬ (200 : Int) < (n2 : Int) := by omega
    have g3' : ¬ (5 : Int) < (n3 : Int) := by omega
    clear g1 g2 g3
    go_enter Try.func7, Try.ntmps7
    go_wp2_with fail
    refine (awake_any _).mono ?_; rintro e w1 ⟨rfl, hb1⟩
    have B1 := Lib.hid hb1
    clear hb1
    go_wp2
    go_ret
    exact ⟨rfl, B1.out⟩
set_option maxRecDepth 20000 in
set_option maxHeartbeats 8000000 in
theorem swaps_1 (A1 A2 A3 : Option Addr) (a b ks : List Int) (n1 n2 n3 cap1 cap2 cap3 : Nat) (hn1 : n1 = a.length) (hn2 : n2 = b.length) (hn3 : n3 = ks.length) (h1 : n1 ≤ 200) (h2 : n2 ≤ 200) (h3 : n3 ≤ 5) (hc : n3 ≤ cap3) (w : World) (ha : Bytes w w.heap.size A1 a) (hb : Bytes w w.heap.size A2 b) (hk : Nums w w.heap.size A3 ks) :
    Calls Try.prog 7 #[.slice A1 n1 cap1, .slice A2 n2 cap2, .int .i64 1, .slice A3 n3 cap3] w fun e w' => e = .returned (.bool true) ∧ Below w.heap.size w w' := by
  have g1 : (n1 : Int) ≤ 200 := by omega
  have g2 : (n2 : Int) ≤ 200 := by omega
  have g3 : (n3 : Int) ≤ 5 := by omega
  have HA := Lib.hid ha
  have HB := Lib.hid hb
  have HK := Lib.hid hk
  have H1 := Lib.hid hn1
  have H2 := Lib.hid hn2
  have H3 := Lib.hid hn3
  have HC := Lib.hid hc
  have L1 := Lib.hid (show a.length ≤ 200 ∧ b.length ≤ 200 ∧ n3 ≤ 5 by omega)
  clear ha hb hk hn1 hn2 hn3 h1 h2 h3 hc
  go_enter Try.func7, Try.ntmps7
  go_wp2_with fail
  refine (awake_any _).mono ?_; rintro e w1 ⟨rfl, hb1⟩
  have B1 := Lib.hid hb1
  clear hb1
  go_wp2_with fail
  refine (new_run 1000 1000 rfl (by decide) (by decide) w w1 B1.out).mono ?_; rintro e w2 ⟨T, rfl, r2⟩
  go_wp2_with fail
  refine (append_run r2.out ⟨#[111, 108, 100]⟩ (by decide) A1 n1 cap1 a H1.out ((HA.out.below r2.out.below).more r2.out.size) 0 ⟨1000, [⟨[111, 108, 100], a, 0⟩], false, 0, []⟩ (sw_app_E a (by have := L1.out; omega)) (sw_app_S a (by have := L1.out; omega))).mono ?_; rintro e w3 ⟨rfl, r3⟩
  go_wp2_with fail
  refine (sync_run r3.out ⟨#[111, 108, 100]⟩ (by decide) 0 (o1 a 0 [] false) (sw_sync_E a) (sw_sync_S a)).mono ?_; rintro e w4 ⟨rfl, r4⟩
  go_wp2_with fail
  refine (fuse_run r4.out 1 (by decide) A3 ks n3 cap3 H3.out HC.out (Ints.of (HK.out.below r4.out.below)) (fun hp x hx => by
    obtain ⟨b0, off0, e0, hl0, _⟩ := HK.out.2 hp
    rw [hx] at e0; injection e0 with e0
    have := r4.out.T_ge
    rw [e0]
    intro e1
    have e1 : b0 = T := e1
    omega) (o1 a 1 (ks.take 64) false) (sw_fuse a ks 1 (by decide))).mono ?_; rintro e w5 ⟨rfl, r5⟩
  go_wp2_with fail
  refine (append_run r5.out ⟨#[110, 101, 119]⟩ (by decide) A2 n2 cap2 b H2.out ((HB.out.below r5.out.below).more r5.out.size) 11 (o1 a 0 [] true) (sw_app2_E1 a b _ (by have := L1.out; omega)) (sw_app2_S1 a b _ (by have := L1.out; omega))).mono ?_; rintro e w6 ⟨rfl, r6⟩
  go_wp2_with fail
  refine (crash_run r6.out A3 ks n3 cap3 H3.out HC.out (by have := L1.out; omega) (Ints.of (HK.out.below r6.out.below)) (o1 a 0 [] true) (sw_off1 a ks)).mono ?_; rintro e w8 ⟨rfl, r8⟩
  go_wp2_with fail
  refine (on_run r8.out (o1 a 0 [] false) rfl).mono ?_; rintro e w9 ⟨rfl, r9⟩
  go_wp2_with fail
  refine (read_run2 r9.out ⟨#[111, 108, 100]⟩ (by decide) a 0 rfl rfl n1 H1.out.symm).mono ?_; rintro e w10 ⟨A10, c10, rfl, o10, r10, b10⟩
  have cvR : (convert 28 9 (.slice A10 n1 c10)).run Try.prog w10 = .ok (.string (strOfNums a)) w10 := by
    have h := conv_str o10.out.bytes c10
    rw [← H1.out] at h
    exact h
  have cvA : (convert 28 9 (.slice A1 n1 cap1)).run Try.prog w10 = .ok (.string (strOfNums a)) w10 := by
    have h := conv_str (HA.out.below r10.out.below) cap1
    rw [← H1.out] at h
    exact h
  have cvB : (convert 28 9 (.slice A2 n2 cap2)).run Try.prog w10 = .ok (.string (strOfNums b)) w10 := by
    have h := conv_str (HB.out.below r10.out.below) cap2
    rw [← H2.out] at h
    exact h
  have R10 := Lib.hid r10.out.below
  clear r2 r3 r4 r5 r6 r8 r9 r10 o10 b10 B1
  generalize strOfNums a = SA at *
  generalize strOfNums b = SB at *
  go_wp2
  go_ret
  exact ⟨rfl, R10.out⟩
set_option maxRecDepth 20000 in
set_option maxHeartbeats 8000000 in
theorem swaps_2 (A1 A2 A3 : Option Addr) (a b ks : List Int) (n1 n2 n3 cap1 cap2 cap3 : Nat) (hn1 : n1 = a.length) (hn2 : n2 = b.length) (hn3 : n3 = ks.length) (h1 : n1 ≤ 200) (h2 : n2 ≤ 200) (h3 : n3 ≤ 5) (hc : n3 ≤ cap3) (w : World) (ha : Bytes w w.heap.size A1 a) (hb : Bytes w w.heap.size A2 b) (hk : Nums w w.heap.size A3 ks) :
    Calls Try.prog 7 #[.slice A1 n1 cap1, .slice A2 n2 cap2, .int .i64 2, .slice A3 n3 cap3] w fun e w' => e = .returned (.bool true) ∧ Below w.heap.size w w' := by
  have g1 : (n1 : Int) ≤ 200 := by omega
  have g2 : (n2 : Int) ≤ 200 := by omega
  have g3 : (n3 : Int) ≤ 5 := by omega
  have HA := Lib.hid ha
  have HB := Lib.hid hb
  have HK := Lib.hid hk
  have H1 := Lib.hid hn1
  have H2 := Lib.hid hn2
  have H3 := Lib.hid hn3
  have HC := Lib.hid hc
  have L1 := Lib.hid (show a.length ≤ 200 ∧ b.length ≤ 200 ∧ n3 ≤ 5 by omega)
  clear ha hb hk hn1 hn2 hn3 h1 h2 h3 hc
  go_enter Try.func7, Try.ntmps7
  go_wp2_with fail
  refine (awake_any _).mono ?_; rintro e w1 ⟨rfl, hb1⟩
  have B1 := Lib.hid hb1
  clear hb1
  go_wp2_with fail
  refine (new_run 1000 1000 rfl (by decide) (by decide) w w1 B1.out).mono ?_; rintro e w2 ⟨T, rfl, r2⟩
  go_wp2_with fail
  refine (append_run r2.out ⟨#[111, 108, 100]⟩ (by decide) A1 n1 cap1 a H1.out ((HA.out.below r2.out.below).more r2.out.size) 0 ⟨1000, [⟨[111, 108, 100], a, 0⟩], false, 0, []⟩ (sw_app_E a (by have := L1.out; omega)) (sw_app_S a (by have := L1.out; omega))).mono ?_; rintro e w3 ⟨rfl, r3⟩
  go_wp2_with fail
  refine (sync_run r3.out ⟨#[111, 108, 100]⟩ (by decide) 0 (o1 a 0 [] false) (sw_sync_E a) (sw_sync_S a)).mono ?_; rintro e w4 ⟨rfl, r4⟩
  go_wp2_with fail
  refine (fuse_run r4.out 2 (by decide) A3 ks n3 cap3 H3.out HC.out (Ints.of (HK.out.below r4.out.below)) (fun hp x hx => by
    obtain ⟨b0, off0, e0, hl0, _⟩ := HK.out.2 hp
    rw [hx] at e0; injection e0 with e0
    have := r4.out.T_ge
    rw [e0]
    intro e1
    have e1 : b0 = T := e1
    omega) (o1 a 2 (ks.take 64) false) (sw_fuse a ks 2 (by decide))).mono ?_; rintro e w5 ⟨rfl, r5⟩
  go_wp2_with fail
  refine (append_run r5.out ⟨#[110, 101, 119]⟩ (by decide) A2 n2 cap2 b H2.out ((HB.out.below r5.out.below).more r5.out.size) 0 (o2 b a 0 (2 - 1) (ks.take 64) false) (sw_app2_E a b _ _ (by omega) (by have := L1.out; omega)) (sw_app2_S a b _ _ (by omega) (by have := L1.out; omega))).mono ?_; rintro e w6 ⟨rfl, r6⟩
  go_wp2_with fail
  obtain ⟨z, kz, hz⟩ := sw_swap_S1 a b (ks.take 64)
  refine (swap_run r6.out ⟨#[110, 101, 119]⟩ ⟨#[111, 108, 100]⟩ (by decide) (by decide) 11 (o2 z a kz 0 [] true) (sw_swap_E1 a b _) hz).mono ?_; rintro e w7 ⟨rfl, r7⟩
  clear hz
  go_wp2_with fail
  refine (crash_run r7.out A3 ks n3 cap3 H3.out HC.out (by have := L1.out; omega) (Ints.of (HK.out.below r7.out.below)) (o2 z a kz 0 [] true) (sw_off2 a z ks kz)).mono ?_; rintro e w8 ⟨rfl, r8⟩
  go_wp2_with fail
  refine (on_run r8.out (o2 z a kz 0 [] false) rfl).mono ?_; rintro e w9 ⟨rfl, r9⟩
  go_wp2_with fail
  refine (read_run2 r9.out ⟨#[111, 108, 100]⟩ (by decide) a 0 rfl rfl n1 H1.out.symm).mono ?_; rintro e w10 ⟨A10, c10, rfl, o10, r10, b10⟩
  have cvR : (convert 28 9 (.slice A10 n1 c10)).run Try.prog w10 = .ok (.string (strOfNums a)) w10 := by
    have h := conv_str o10.out.bytes c10
    rw [← H1.out] at h
    exact h
  have cvA : (convert 28 9 (.slice A1 n1 cap1)).run Try.prog w10 = .ok (.string (strOfNums a)) w10 := by
    have h := conv_str (HA.out.below r10.out.below) cap1
    rw [← H1.out] at h
    exact h
  have cvB : (convert 28 9 (.slice A2 n2 cap2)).run Try.prog w10 = .ok (.string (strOfNums b)) w10 := by
    have h := conv_str (HB.out.below r10.out.below) cap2
    rw [← H2.out] at h
    exact h
  have R10 := Lib.hid r10.out.below
  clear r2 r3 r4 r5 r6 r7 r8 r9 r10 o10 b10 B1
  generalize strOfNums a = SA at *
  generalize strOfNums b = SB at *
  go_wp2
  go_ret
  exact ⟨rfl, R10.out⟩
set_option maxRecDepth 20000 in
set_option maxHeartbeats 8000000 in
theorem swaps_3 (A1 A2 A3 : Option Addr) (a b ks : List Int) (n1 n2 n3 cap1 cap2 cap3 : Nat) (N : Nat) (hN : 3 ≤ N) (hN2 : N ≤ 9223372036854775807) (hn1 : n1 = a.length) (hn2 : n2 = b.length) (hn3 : n3 = ks.length) (h1 : n1 ≤ 200) (h2 : n2 ≤ 200) (h3 : n3 ≤ 5) (hc : n3 ≤ cap3) (w : World) (ha : Bytes w w.heap.size A1 a) (hb : Bytes w w.heap.size A2 b) (hk : Nums w w.heap.size A3 ks) :
    Calls Try.prog 7 #[.slice A1 n1 cap1, .slice A2 n2 cap2, .int .i64 (N : Int), .slice A3 n3 cap3] w fun e w' => e = .returned (.bool true) ∧ Below w.heap.size w w' := by
  have g4 : ¬ (N : Int) < 1 := by omega
  have g1 : (n1 : Int) ≤ 200 := by omega
  have g2 : (n2 : Int) ≤ 200 := by omega
  have g3 : (n3 : Int) ≤ 5 := by omega
  have HA := Lib.hid ha
  have HB := Lib.hid hb
  have HK := Lib.hid hk
  have H1 := Lib.hid hn1
  have H2 := Lib.hid hn2
  have H3 := Lib.hid hn3
  have HC := Lib.hid hc
  have L1 := Lib.hid (show a.length ≤ 200 ∧ b.length ≤ 200 ∧ n3 ≤ 5 by omega)
  clear ha hb hk hn1 hn2 hn3 h1 h2 h3 hc
  go_enter Try.func7, Try.ntmps7
  go_wp2_with fail
  refine (awake_any _).mono ?_; rintro e w1 ⟨rfl, hb1⟩
  have B1 := Lib.hid hb1
  clear hb1
  go_wp2_with fail
  refine (new_run 1000 1000 rfl (by decide) (by decide) w w1 B1.out).mono ?_; rintro e w2 ⟨T, rfl, r2⟩
  go_wp2_with fail
  refine (append_run r2.out ⟨#[111, 108, 100]⟩ (by decide) A1 n1 cap1 a H1.out ((HA.out.below r2.out.below).more r2.out.size) 0 ⟨1000, [⟨[111, 108, 100], a, 0⟩], false, 0, []⟩ (sw_app_E a (by have := L1.out; omega)) (sw_app_S a (by have := L1.out; omega))).mono ?_; rintro e w3 ⟨rfl, r3⟩
  go_wp2_with fail
  refine (sync_run r3.out ⟨#[111, 108, 100]⟩ (by decide) 0 (o1 a 0 [] false) (sw_sync_E a) (sw_sync_S a)).mono ?_; rintro e w4 ⟨rfl, r4⟩
  go_wp2_with fail
  refine (fuse_run r4.out (N : Int) (by omega) A3 ks n3 cap3 H3.out HC.out (Ints.of (HK.out.below r4.out.below)) (fun hp x hx => by
    obtain ⟨b0, off0, e0, hl0, _⟩ := HK.out.2 hp
    rw [hx] at e0; injection e0 with e0
    have := r4.out.T_ge
    rw [e0]
    intro e1
    have e1 : b0 = T := e1
    omega) (o1 a N (ks.take 64) false) (sw_fuse a ks (N : Int) (by omega))).mono ?_; rintro e w5 ⟨rfl, r5⟩
  go_wp2_with fail
  refine (append_run r5.out ⟨#[110, 101, 119]⟩ (by decide) A2 n2 cap2 b H2.out ((HB.out.below r5.out.below).more r5.out.size) 0 (o2 b a 0 (N - 1) (ks.take 64) false) (sw_app2_E a b _ _ (by omega) (by have := L1.out; omega)) (sw_app2_S a b _ _ (by omega) (by have := L1.out; omega))).mono ?_; rintro e w6 ⟨rfl, r6⟩
  go_wp2_with fail
  refine (swap_run r6.out ⟨#[110, 101, 119]⟩ ⟨#[111, 108, 100]⟩ (by decide) (by decide) 0 (o1 b (N - 1 - 1) (ks.take 64) false) (sw_swap_E a b _ _ (by omega)) (sw_swap_S a b _ _ (by omega))).mono ?_; rintro e w7 ⟨rfl, r7⟩
  go_wp2_with fail
  refine (crash_run r7.out A3 ks n3 cap3 H3.out HC.out (by have := L1.out; omega) (Ints.of (HK.out.below r7.out.below)) (o1 b 0 [] true) (sw_crash1 b _ _ ks)).mono ?_; rintro e w8 ⟨rfl, r8⟩
  go_wp2_with fail
  refine (on_run r8.out (o1 b 0 [] false) rfl).mono ?_; rintro e w9 ⟨rfl, r9⟩
  go_wp2_with fail
  refine (read_run2 r9.out ⟨#[111, 108, 100]⟩ (by decide) b 0 rfl rfl n2 H2.out.symm).mono ?_; rintro e w10 ⟨A10, c10, rfl, o10, r10, b10⟩
  have cvR : (convert 28 9 (.slice A10 n2 c10)).run Try.prog w10 = .ok (.string (strOfNums b)) w10 := by
    have h := conv_str o10.out.bytes c10
    rw [← H2.out] at h
    exact h
  have cvA : (convert 28 9 (.slice A1 n1 cap1)).run Try.prog w10 = .ok (.string (strOfNums a)) w10 := by
    have h := conv_str (HA.out.below r10.out.below) cap1
    rw [← H1.out] at h
    exact h
  have cvB : (convert 28 9 (.slice A2 n2 cap2)).run Try.prog w10 = .ok (.string (strOfNums b)) w10 := by
    have h := conv_str (HB.out.below r10.out.below) cap2
    rw [← H2.out] at h
    exact h
  have R10 := Lib.hid r10.out.below
  clear r2 r3 r4 r5 r6 r7 r8 r9 r10 o10 b10 B1
  generalize strOfNums a = SA at *
  generalize strOfNums b = SB at *
  go_wp2
  go_ret
  exact ⟨rfl, R10.out⟩
theorem swaps_walk (A1 A2 A3 : Option Addr) (a b ks : List Int) (cap1 cap2 cap3 : Nat) (k : Int) (hk2 : k ≤ 9223372036854775807) (hc : ks.length ≤ cap3) (w : World) (ha : Bytes w w.heap.size A1 a) (hb : Bytes w w.heap.size A2 b) (hk : Nums w w.heap.size A3 ks) :
    Calls Try.prog 7 #[.slice A1 a.length cap1, .slice A2 b.length cap2, .int .i64 k, .slice A3 ks.length cap3] w fun e w' => e = .returned (.bool true) ∧ Below w.heap.size w w' := by
  by_cases h : a.length ≤ 200 ∧ b.length ≤ 200 ∧ ks.length ≤ 5 ∧ 1 ≤ k
  · by_cases e1 : k = 1
    · subst e1; exact swaps_1 A1 A2 A3 a b ks _ _ _ cap1 cap2 cap3 rfl rfl rfl h.1 h.2.1 h.2.2.1 hc w ha hb hk
    · by_cases e2 : k = 2
      · subst e2; exact swaps_2 A1 A2 A3 a b ks _ _ _ cap1 cap2 cap3 rfl rfl rfl h.1 h.2.1 h.2.2.1 hc w ha hb hk
      · obtain ⟨N, rfl⟩ := Int.eq_ofNat_of_zero_le (show 0 ≤ k by omega)
        exact swaps_3 A1 A2 A3 a b ks _ _ _ cap1 cap2 cap3 N (by omega) (by omega) rfl rfl rfl h.1 h.2.1 h.2.2.1 hc w ha hb hk
  · exact swaps_off A1 A2 A3 _ _ _ cap1 cap2 cap3 k (by omega) w
end Go.Proofs.Ytdfehdaeeigofaa
