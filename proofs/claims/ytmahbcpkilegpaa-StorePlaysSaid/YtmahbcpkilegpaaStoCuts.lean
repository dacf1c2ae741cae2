/-
  The law StoreCuts, walked.
-/
import Derived.Test.YtmahbcpkilegpaaStoOne
import Derived.BigQuiet
import Derived.Deep.QuietTactic
namespace Go.Proofs.Ytmahbcpkilegpaa
open Go.RowKit St

/-- .. beside a row of bytes that is none of its blocks. -/
def RunG (w0 w : World) (T : Nat) (s : S) (A : Option Addr) (zs : List Int) : Prop := ∃ own, PState w T own s ∧ (∀ k, own k → w0.heap.size ≤ k) ∧ Below w0.heap.size w0 w ∧ Bytes w w.heap.size A zs ∧ (0 < zs.length → ∀ a, A = some a → ¬ own a.block)
theorem RunG.run {w0 w : World} {T : Nat} {s : S} {A : Option Addr} {zs : List Int} (h : RunG w0 w T s A zs) : Run w0 w T s := by obtain ⟨own, p, ho, h0, _⟩ := h; exact ⟨own, p, ho, h0⟩
theorem RunG.bytes {w0 w : World} {T : Nat} {s : S} {A : Option Addr} {zs : List Int} (h : RunG w0 w T s A zs) : Bytes w w.heap.size A zs := by obtain ⟨own, _, _, _, hb, _⟩ := h; exact hb
theorem RunG.leaves {w0 w w' : World} {T : Nat} {s' : S} {own : Nat → Prop} {A : Option Addr} {zs : List Int} (ho : ∀ k, own k → w0.heap.size ≤ k) (h0 : Below w0.heap.size w0 w) (hb : Bytes w w.heap.size A zs) (hn : 0 < zs.length → ∀ a, A = some a → ¬ own a.block) (hl : Leaves w T own s' w') : RunG w0 w' T s' A zs := by
  obtain ⟨own2, p, st⟩ := hl
  refine ⟨own2, p, fun k hk => ?_, h0.trans (st.only.below h0.size ho), ⟨hb.1, fun hp => ?_⟩, fun hp a ha hk => ?_⟩
  · rcases st.sub k hk with h1 | h1
    · exact ho k h1
    · exact Nat.le_trans h0.size h1
  · obtain ⟨b, off, e, hl', hc⟩ := hb.2 hp
    exact ⟨b, off, e, Nat.lt_of_lt_of_le hl' st.only.size, fun i hi => (World.cell?_of_block (w := w) (a := ⟨b, off + i, none⟩) (st.only.block b hl' (hn hp ⟨b, off, none⟩ e))).trans (hc i hi)⟩
  · obtain ⟨b, off, e, hl', hc⟩ := hb.2 hp
    rw [e] at ha; injection ha with ha; subst ha
    rcases st.sub _ hk with h1 | h1
    · exact hn hp _ e h1
    · have h1 : w.heap.size ≤ b := h1
      omega
section
variable {w0 w : World} {T : Nat} {s : S}
theorem read_runG (h : Run w0 w T s) (sn : ByteArray) (hsn : sn.size ≤ 9223372036854775807) (ys : List Int) (er : Int) (he : readE s (bs sn) = er) (hy : readL s (bs sn) = ys) (n : Nat) (hn : ys.length = n) :
    Calls Try.prog 23 #[.pointer (some ⟨T, 0, none⟩), .string sn] w fun e w' => ∃ A cap, e = .returned (.tuple #[.slice A n cap, .int .i64 er]) ∧ Hid (RunG w0 w' T s A ys) := by
  subst he hy hn
  obtain ⟨own, p, ho, h0⟩ := h
  refine (read_any T own s w p sn hsn).mono ?_
  rintro e w' ⟨zs, A, cap, hz, rfl, h1, h2⟩
  have hz' : zs = readL s (bs sn) := hz.out
  subst hz'
  exact ⟨A, cap, rfl, Lib.hid ⟨own, p.grow h2, ho, h0.trans (h2.mono h0.size), h1.bytes, fun _ a ha hk => by
    subst ha
    have := h1.lt.1
    have := p.lt _ hk
    omega⟩⟩
theorem crash_runG {B : Option Addr} {zs : List Int} (h : RunG w0 w T s B zs) (A : Option Addr) (ks : List Int) (n cap : Nat) (hn : n = ks.length) (hkl : n ≤ cap) (hkb : n ≤ 4611686018427387904) (hk : Ints w A ks) (s' : S) (hs : crash s ks = s') :
    Calls Try.prog 17 #[.pointer (some ⟨T, 0, none⟩), .slice A n cap] w fun e w' => e = .returned (.tuple #[]) ∧ Hid (RunG w0 w' T s' B zs) := by
  subst hn hs
  obtain ⟨own, p, ho, h0, hb, hx⟩ := h
  exact (crash_any T own s A ks cap hkl hkb w p hk).mono fun e w' ⟨h1, h2⟩ => ⟨h1, Lib.hid (RunG.leaves ho h0 hb hx h2)⟩
theorem on_runG {B : Option Addr} {zs : List Int} (h : RunG w0 w T s B zs) (s' : S) (hs : ({ s with off := false } : S) = s') :
    Calls Try.prog 20 #[.pointer (some ⟨T, 0, none⟩)] w fun e w' => e = .returned (.tuple #[]) ∧ Hid (RunG w0 w' T s' B zs) := by
  subst hs
  obtain ⟨own, p, ho, h0, hb, hx⟩ := h
  exact (on_any T own s w p).mono fun e w' ⟨h1, h2⟩ => ⟨h1, Lib.hid (RunG.leaves ho h0 hb hx h2)⟩
theorem read_run2 (h : Run w0 w T s) (sn : ByteArray) (hsn : sn.size ≤ 9223372036854775807) (ys : List Int) (er : Int) (he : readE s (bs sn) = er) (hy : readL s (bs sn) = ys) (n : Nat) (hn : ys.length = n) :
    Calls Try.prog 23 #[.pointer (some ⟨T, 0, none⟩), .string sn] w fun e w' => ∃ A cap, e = .returned (.tuple #[.slice A n cap, .int .i64 er]) ∧ Hid (OwnB w' w.heap.size A cap ys) ∧ Hid (Run w0 w' T s) ∧ Hid (Below w.heap.size w w') := by
  subst he hy hn
  obtain ⟨own, p, ho, h0⟩ := h
  refine (read_any T own s w p sn hsn).mono ?_
  rintro e w' ⟨zs, A, cap, hz, rfl, h1, h2⟩
  have hz' : zs = readL s (bs sn) := hz.out
  subst hz'
  exact ⟨A, cap, rfl, Lib.hid h1, Lib.hid (Run.grow (s := s) ⟨own, p, ho, h0⟩ h2), Lib.hid h2⟩
end
set_option maxRecDepth 20000 in
set_option maxHeartbeats 4000000 in
theorem cuts_off (A1 A2 : Option Addr) (n1 n2 cap1 cap2 : Nat) (k : Int) (h : 300 < n1 ∨ (n1 ≤ 300 ∧ (300 < n2 ∨ (n2 ≤ 300 ∧ (k < 0 ∨ (0 ≤ k ∧ (n1 : Int) < k)))))) (w : World) :
    Calls Try.prog 8 #[.slice A1 n1 cap1, .int .i64 k, .slice A2 n2 cap2] w fun e w' => e = .returned (.bool true) ∧ Below w.heap.size w w' := by
  rcases h with h | ⟨g1, h | ⟨g2, h | ⟨h, g3⟩⟩⟩
  · have h' : (300 : Int) < (n1 : Int) := by omega
    clear h
    go_enter Try.func8, Try.ntmps8
    go_wp2_with fail
    refine (awake_any _).mono ?_; rintro e w1 ⟨rfl, hb1⟩
    have B1 := Lib.hid hb1
    clear hb1
    go_wp2
    go_ret
    exact ⟨rfl, B1.out⟩
  · have g1' : ¬ (300 : Int) < (n1 : Int) := by omega
    have h' : (300 : Int) < (n2 : Int) := by omega
    clear h g1
    go_enter Try.func8, Try.ntmps8
    go_wp2_with fail
    refine (awake_any _).mono ?_; rintro e w1 ⟨rfl, hb1⟩
    have B1 := Lib.hid hb1
    clear hb1
    go_wp2
    go_ret
    exact ⟨rfl, B1.out⟩
  · have g1' : ¬ (300 : Int) < (n1 : Int) := by omega
    have g2' : ¬ (300 : Int) < (n2 : Int) := by omega
    clear g1 g2
    go_enter Try.func8, Try.ntmps8
    go_wp2_with fail
    refine (awake_any _).mono ?_; rintro e w1 ⟨rfl, hb1⟩
    have B1 := Lib.hid hb1
    clear hb1
    go_wp2
    go_ret
    exact ⟨rfl, B1.out⟩
  · have g1' : ¬ (300 : Int) < (n1 : Int) := by omega
    have g2' : ¬ (300 : Int) < (n2 : Int) := by omega
    have h' : ¬ k < 0 := by omega
    clear g1 g2 h
    go_enter Try.func8, Try.ntmps8
    go_wp2_with fail
    refine (awake_any _).mono ?_; rintro e w1 ⟨rfl, hb1⟩
    have B1 := Lib.hid hb1
    clear hb1
    go_wp2
    go_ret
    exact ⟨rfl, B1.out⟩
set_option maxRecDepth 20000 in
set_option maxHeartbeats 8000000 in
theorem cuts_core (A1 A2 : Option Addr) (a b : List Int) (n1 n2 cap1 cap2 k : Nat) (hn1 : n1 = a.length) (hn2 : n2 = b.length) (h1 : n1 ≤ 300) (h2 : n2 ≤ 300) (hk : k ≤ n1) (hc : n1 ≤ cap1) (w : World) (ha : Bytes w w.heap.size A1 a) (hb : Bytes w w.heap.size A2 b) :
    Calls Try.prog 8 #[.slice A1 n1 cap1, .int .i64 (k : Int), .slice A2 n2 cap2] w fun e w' => e = .returned (.bool true) ∧ Below w.heap.size w w' := by
  have g1 : (n1 : Int) ≤ 300 := by omega
  have g2 : (n2 : Int) ≤ 300 := by omega
  have g3 : (k : Int) ≤ (n1 : Int) := by omega
  have HA := Lib.hid ha
  have HB := Lib.hid hb
  have H1 := Lib.hid hn1
  have H2 := Lib.hid hn2
  have L1 := Lib.hid (show a.length ≤ 300 ∧ b.length ≤ 300 ∧ k ≤ a.length by omega)
  have TL := Lib.hid (show (a.take k).length = k by rw [List.length_take]; omega)
  have sl : ∀ W, (Instr.slice 28 (.slice A1 n1 cap1) none (some (.int .i64 (k : Int))) none).run Try.prog W = .ok (.slice A1 k cap1) W := fun W => slice_to A1 n1 cap1 k (by omega) .i64 W
  clear ha hb hn1 hn2 h1 h2 hk hc
  go_enter Try.func8, Try.ntmps8
  go_wp2_with fail
  refine (awake_any _).mono ?_; rintro e w1 ⟨rfl, hb1⟩
  have B1 := Lib.hid hb1
  clear hb1
  go_wp2_with fail
  refine (new_run 1000 1000 rfl (by decide) (by decide) w w1 B1.out).mono ?_; rintro e w2 ⟨T, rfl, r2⟩
  go_wp2_with fail
  refine (append_run r2.out ⟨#[102]⟩ (by decide) A1 n1 cap1 a H1.out ((HA.out.below r2.out.below).more r2.out.size) 0 (one 1000 a 0 false) (app0_E 1000 a (by have := L1.out; omega)) (app0_S 1000 a (by have := L1.out; omega))).mono ?_; rintro e w3 ⟨rfl, r3⟩
  go_wp2_with fail
  refine (sync_run r3.out ⟨#[102]⟩ (by decide) 0 (one 1000 a a.length false) (one_sync_E _ _ _) (one_sync_S _ _ _)).mono ?_; rintro e w4 ⟨rfl, r4⟩
  go_wp2_with fail
  refine (cut_run r4.out ⟨#[102]⟩ (by decide) (k : Int) 0 (one 1000 (a.take k) k false) (one_cut_E _ _ _ _ (by omega) (by have := L1.out; omega)) (by
    have h := one_cut_S 1000 a a.length (k : Int) (by omega) (by have := L1.out; omega)
    rw [Int.toNat_natCast, Nat.min_eq_right (by have := L1.out; omega)] at h
    exact h)).mono ?_; rintro e w5 ⟨rfl, r5⟩
  go_wp2_with fail
  refine (append_run r5.out ⟨#[102]⟩ (by decide) A2 n2 cap2 b H2.out ((HB.out.below r5.out.below).more r5.out.size) 0 (one 1000 (a.take k ++ b) k false) (one_app_E _ _ _ b (by rw [TL.out]; have := L1.out; omega)) (one_app_S _ _ _ b (by rw [TL.out]; have := L1.out; omega))).mono ?_; rintro e w6 ⟨rfl, r6⟩
  go_wp2_with fail
  have LE := Lib.hid (show (a.take k ++ b).length = k + n2 by rw [List.length_append, TL.out, H2.out])
  refine (read_runG r6.out ⟨#[102]⟩ (by decide) (a.take k ++ b) 0 (one_read_E _ _ _) (one_read_L _ _ _) (k + n2) LE.out).mono ?_; rintro e w7 ⟨A7, c7, rfl, r7⟩
  obtain ⟨s8, hs8⟩ : ∃ s8, crash (one 1000 (a.take k ++ b) k false) [] = s8 := ⟨_, rfl⟩
  have E8 : Hid (s8 = one 1000 (a.take k) k true) := Lib.hid (by
    rw [← hs8]
    by_cases hbn : b = []
    · subst hbn
      rw [one_crash_same _ _ _ _ (by rw [List.append_nil, TL.out]), List.append_nil]
    · have : 0 < b.length := List.length_pos_iff.2 hbn
      rw [one_crash _ _ _ _ (by rw [List.length_append, TL.out]; omega)]
      have e0 : k + min (([] : List Int).headD 0).toNat ((a.take k ++ b).length - k) = k := by simp
      rw [e0, List.take_append_of_le_length (by rw [TL.out]; exact Nat.le_refl _), List.take_of_length_le (by rw [TL.out]; exact Nat.le_refl _)])
  go_wp2_with fail
  refine (crash_runG r7.out none [] 0 0 rfl (by decide) (by decide) (fun h => by simp at h) (one 1000 (a.take k) k true) (hs8.trans E8.out)).mono ?_; rintro e w8 ⟨rfl, r8⟩
  go_wp2_with fail
  refine (on_runG r8.out (one 1000 (a.take k) k false) rfl).mono ?_; rintro e w9 ⟨rfl, r9⟩
  go_wp2_with fail
  refine (read_run2 r9.out.run ⟨#[102]⟩ (by decide) (a.take k) 0 (one_read_E _ _ _) (one_read_L _ _ _) k TL.out).mono ?_; rintro e w10 ⟨A10, c10, rfl, o10, r10, b10⟩
  have cvR : ∀ n, (convert 28 9 (.slice A7 (k + n2) c7)).run Try.prog (w10.drewN n) = .ok (.string (strOfNums (a.take k) ++ strOfNums b)) (w10.drewN n) := fun n => by
    have h := conv_str (w := w10.drewN n) ((r9.out.bytes.below b10.out).keep fun _ _ _ => rfl) c7
    rw [LE.out, str_app] at h
    exact h
  have cvT : ∀ n, (convert 28 9 (.slice A10 k c10)).run Try.prog (w10.drewN n) = .ok (.string (strOfNums (a.take k))) (w10.drewN n) := fun n => by
    have h := conv_str (w := w10.drewN n) (o10.out.bytes.keep fun _ _ _ => rfl) c10
    rw [TL.out] at h
    exact h
  have cvA : ∀ n, (convert 28 9 (.slice A1 k cap1)).run Try.prog (w10.drewN n) = .ok (.string (strOfNums (a.take k))) (w10.drewN n) := fun n => by
    have h := conv_str (w := w10.drewN n) (((HA.out.head k).below r10.out.below).keep fun _ _ _ => rfl) cap1
    rw [TL.out] at h
    exact h
  have cvB : ∀ n, (convert 28 9 (.slice A2 n2 cap2)).run Try.prog (w10.drewN n) = .ok (.string (strOfNums b)) (w10.drewN n) := fun n => by
    have h := conv_str (w := w10.drewN n) ((HB.out.below r10.out.below).keep fun _ _ _ => rfl) cap2
    rw [← H2.out] at h
    exact h
  have hss : (strOfNums (a.take k)).size + (strOfNums b).size ≤ 9223372036854775807 := by rw [strOfNums_size, strOfNums_size, TL.out]; have := L1.out; omega
  have sa : ∀ W, (Op.stringOp .add (strOfNums (a.take k)) (strOfNums b)).run Try.prog W = .ok (.string (strOfNums (a.take k) ++ strOfNums b)) W := fun W => run_string_add_sum W _ _ hss
  have R10 := r10
  clear r2 r3 r4 r5 r6 r7 r8 r9 r10 o10 b10 hs8 E8 B1
  generalize strOfNums (a.take k) = SA at *
  generalize strOfNums b = SB at *
  go_wp2_with fail
  go_quiet (fail)
  go_wp2
  go_ret
  exact ⟨rfl, below_n R10.out.below _⟩
theorem cuts_walk (A1 A2 : Option Addr) (a b : List Int) (cap1 cap2 : Nat) (k : Int) (hc : a.length ≤ cap1) (w : World) (ha : Bytes w w.heap.size A1 a) (hb : Bytes w w.heap.size A2 b) :
    Calls Try.prog 8 #[.slice A1 a.length cap1, .int .i64 k, .slice A2 b.length cap2] w fun e w' => e = .returned (.bool true) ∧ Below w.heap.size w w' := by
  by_cases h : a.length ≤ 300 ∧ b.length ≤ 300 ∧ 0 ≤ k ∧ k ≤ (a.length : Int)
  · obtain ⟨j, rfl⟩ := Int.eq_ofNat_of_zero_le h.2.2.1
    exact cuts_core A1 A2 a b _ _ cap1 cap2 j rfl rfl h.1 h.2.1 (by omega) hc w ha hb
  · exact cuts_off A1 A2 _ _ cap1 cap2 k (by omega) w
end Go.Proofs.Ytmahbcpkilegpaa
