/-
  The law EncBack: a number, a signed number and a string are read again, one behind the other; a first part of their encoding is bad.
-/
import Derived.Test.YthenjipljkphiaaEncAwake
import Derived.Test.YthenjipljkphiaaEncInS
import Derived.Test.YthenjipljkphiaaEncCut
namespace Go.Proofs.Ythenjipljkphiaa
open Go.RowKit
theorem out_lit (w : World) (base : Nat) (zs : List Int) (hz : zs.all isByte = true) (hp : 0 < zs.length) (n : Nat) (hn : n = zs.length) (fr : Nat × Nat) (cs : Array Value) (hc : cs = (zs.map (Value.int .u8)).toArray) (hb : base ≤ w.heap.size + 1 + 1) :
    OutAt ((w.alloc (.cells cs 5 fr)).alloc (.cells #[.slice (some ⟨w.heap.size, 0, none⟩) n n] 26)) base (w.heap.size + 1) zs := by
  subst hn
  have e : (w.alloc (.cells cs 5 fr)).heap.size = w.heap.size + 1 := by simp
  have h := heap_alloc_new (w.alloc (.cells cs 5 fr)) (.cells #[.slice (some ⟨w.heap.size, 0, none⟩) zs.length zs.length] 26)
  rw [e] at h
  refine ⟨_, _, h, by simp; omega, .inr ⟨rfl, hp, ?_⟩⟩
  exact ((Bytes.new w zs hz fr cs hc).below ((Below.refl _ _).alloc (by rw [e]; exact Nat.le_refl _) _)).more (by simp)
theorem tail_one (A : Option Addr) (n cap : Nat) (W : World) :
    (Instr.slice 24 (.slice A (n + 1) cap) (some (.int .i64 1)) none none).run Try.prog W = .ok (.slice (tailA A cap 1) n (cap - 1)) W := slice_from A (n + 1) cap 1 (by omega) .i64 W
theorem mid_one (A : Option Addr) (n cap c : Nat) (h : 1 + c ≤ cap) (W : World) :
    (Instr.slice 24 (.slice A (n + 1) cap) (some (.int .i64 1)) (some (.int .i64 (1 + (c : Int)))) none).run Try.prog W = .ok (.slice (tailA A cap 1) c (cap - 1)) W := by
  have h1 := slice_mid A (n + 1) cap 1 (1 + c) (by omega) h .i64 .i64 W
  have e : ((1 + c : Nat) : Int) = 1 + (c : Int) := by omega
  have e2 : 1 + c - 1 = c := by omega
  rw [e, e2] at h1
  exact h1
/-- The text of the writer: an x, and what was written. -/
theorem back_text (L M P : List Int) : ([120] ++ L) ++ M ++ P = 120 :: (L ++ (M ++ P)) := by simp
/-- What reading gives of the whole. -/
structure Reads (body : List Int) (u f : Int) (s : ByteArray) : Prop where
  len3 : 3 ≤ body.length
  lenm : body.length ≤ 1000
  byte : En.Byte body
  u0 : 0 ≤ u
  f0 : 0 ≤ f ∧ f < 18446744073709551616
  ok1 : En.okU body false = true
  val1 : En.valU body false = u
  ok2 : En.okU (En.restU body false) false = true
  val2 : En.valU (En.restU body false) false = f
  ok3 : En.okS (En.restU (En.restU body false) false) false 300 = true
  val3 : En.valS (En.restU (En.restU body false) false) false 300 = s
  rest3 : En.restS (En.restU (En.restU body false) false) false 300 = []
  cut : ∀ c, c < body.length → En.cutBad (body.take c) 300 = false
theorem reads_of (u f : Int) (s : ByteArray) (u0 : 0 ≤ u) (u1 : u < 18446744073709551616) (f0 : 0 ≤ f) (f1 : f < 18446744073709551616) (hs : s.size ≤ 300) :
    Reads (En.leb u ++ (En.leb f ++ En.putS s)) u f s := by
  obtain ⟨a1, a2, a3⟩ := En.readU u (En.leb f ++ En.putS s) u0 u1
  obtain ⟨b1, b2, b3⟩ := En.readU f (En.putS s) f0 f1
  obtain ⟨c1, c2, c3⟩ := En.readS s [] 300 (by omega) (by omega)
  rw [List.append_nil] at c1 c2 c3
  have l1 := En.leb_len u u0 u1
  have l2 := En.leb_len f f0 f1
  have l3 := En.leb_len s.size (by omega) (by omega)
  have p1 := En.leb_pos u u0
  have p2 := En.leb_pos f f0
  have p3 := En.leb_pos s.size (by omega)
  have hl : (En.putS s).length = (En.leb s.size).length + s.size := by
    show (En.leb s.size ++ En.strB s).length = _
    rw [List.length_append, En.strB_len]
  refine ⟨?_, ?_, ?_, u0, ⟨f0, f1⟩, a1, a2, by rw [a3]; exact b1, by rw [a3]; exact b2, by rw [a3, b3]; exact c1, by rw [a3, b3]; exact c2, by rw [a3, b3]; exact c3, fun c hc => En.cut_bad u f s 300 u0 u1 f0 f1 (by omega) c hc⟩
  · simp only [List.length_append]; omega
  · simp only [List.length_append]; omega
  · exact En.Byte.app (En.leb_bytes u u0) (En.Byte.app (En.leb_bytes f f0) (En.Byte.app (En.leb_bytes s.size (by omega)) (En.strB_byte s)))
set_option maxHeartbeats 1000000 in
theorem back_long (u v cut : Int) (s : ByteArray) (hs : 300 < s.size) (w : World) :
    Calls Try.prog 5 #[.int .u64 u, .int .i64 v, .string s, .int .i64 cut] w fun e w' => e = .returned (.bool true) ∧ Below w.heap.size w w' := by
  have hs' : (300 : Int) < (s.size : Int) := by omega
  go_enter Try.func5, Try.ntmps5
  go_wp2_with fail
  refine (awake_any _).mono ?_; rintro e w1 ⟨rfl, hb1⟩
  go_wp2
  go_ret
  exact ⟨rfl, hb1⟩
set_option maxHeartbeats 2000000 in
set_option maxRecDepth 100000 in
theorem back_short (u v cut : Int) (s : ByteArray) (hs : s.size ≤ 300) (u0 : 0 ≤ u) (u1 : u < 18446744073709551616) (v0 : -9223372036854775808 ≤ v) (v1 : v ≤ 9223372036854775807)
    (c0 : -9223372036854775808 ≤ cut) (c1 : cut ≤ 9223372036854775807) (w : World) :
    Calls Try.prog 5 #[.int .u64 u, .int .i64 v, .string s, .int .i64 cut] w fun e w' => e = .returned (.bool true) ∧ Below w.heap.size w w' := by
  have hf := Pl.foldV_range v v0 v1
  have RD := Lib.hid (reads_of u (Pl.foldV v) s u0 u1 hf.1 hf.2 hs)
  have UF := Lib.hid (Pl.unfold_fold v)
  have BT := Lib.hid (back_text (En.leb u) (En.leb (Pl.foldV v)) (En.putS s))
  have hs' : (s.size : Int) ≤ 300 := by omega
  have hcv := conv_lit
  have L1 := Lib.hid (En.leb_len u u0 u1)
  have L2 := Lib.hid (En.leb_len _ hf.1 hf.2)
  go_enter Try.func5, Try.ntmps5
  go_wp2_with fail
  refine (awake_any _).mono ?_; rintro e w1 ⟨rfl, hb1⟩
  have HB1 := Lib.hid hb1
  have hs1 := hb1.size
  clear hb1
  go_wp2_with fail
  refine (outU_any u u0 u1 (w1.heap.size + 1 + 1) (w1.heap.size + 1) [120] (by decide) _ (out_lit w1 _ [120] (by decide) (by decide) 1 rfl _ _ rfl (Nat.le_refl _))).mono ?_; rintro e w2 ⟨rfl, hp2⟩
  have HP2 := Lib.hid hp2
  clear hp2
  go_wp2_with fail
  refine (outI_any v v0 v1 (w1.heap.size + 1 + 1) (w1.heap.size + 1) _ (by have := L1.out; simp; omega) _ HP2.out.1.at_).mono ?_; rintro e w3 ⟨rfl, hp3⟩
  have HP3 := Lib.hid (HP2.out.trans hp3)
  clear hp3
  go_wp2_with fail
  refine (outS_any s (by omega) (w1.heap.size + 1 + 1) (w1.heap.size + 1) _ (by have := L1.out; have := L2.out; simp; omega) _ HP3.out.1.at_).mono ?_; rintro e w4 ⟨rfl, hp4⟩
  have hp4' := HP3.out.trans hp4
  clear hp4
  have HB4 : Hid (Below w.heap.size w w4) := ((HB1.out.alloc hs1 _).alloc (by simp; omega) _).trans (hp4'.2.below (by omega) (by omega))
  have ho := hp4'.1
  have hs4 : w1.heap.size + 1 + 1 ≤ w4.heap.size := by have := hp4'.2.size; simp at this; omega
  clear hp4' HP2 HP3
  rw [BT.out] at ho
  generalize En.leb u ++ (En.leb (Pl.foldV v) ++ En.putS s) = body at *
  generalize Pl.foldV v = f at *
  clear BT L1 L2 hf hcv HB1
  obtain ⟨A, cap, ho, _, hrow⟩ := ho
  obtain ⟨x0, _⟩ := obj1 ho
  rw [List.length_cons] at x0
  obtain ⟨r, rfl, hr1, hr2⟩ := hrow.shape (by simp)
  have k0 := (hrow.cell (j := 0) (by simp)).1
  rw [List.getD_cons_zero] at k0
  have hcap := hrow.cap_
  rw [List.length_cons] at hcap
  have HT := Lib.hid (hrow.bytes.tail 1 cap hrow.cap_)
  rw [List.drop_succ_cons, List.drop_zero] at HT
  have SF := tail_one (some ⟨r, 0, none⟩) body.length cap
  have SM := Lib.hid (fun c h => mid_one (some ⟨r, 0, none⟩) body.length cap c h)
  generalize tailA (some ⟨r, 0, none⟩) cap 1 = A1 at *
  generalize cap - 1 = cap1 at *
  have l3 : (3 : Int) ≤ (body.length : Int) := by have := RD.out.len3; omega
  have lm : body.length ≤ 1000 := RD.out.lenm
  have HG := Lib.hid ho
  clear ho hrow
  have hrl : r < w4.heap.size + 1 := by omega
  have hrl2 : r < w4.heap.size + 1 + 1 := by omega
  have hg4 : w1.heap.size + 1 < w4.heap.size := by omega
  have hs40 : w.heap.size ≤ w4.heap.size := by omega
  go_wp2_with (first
    | (at_builtin; refine wp_app rfl (.tmp 45) (.tmp 50) rfl rfl rfl (OwnB.start w4 w4.heap.size (Nat.le_refl _)) (by simp) rfl rfl (HT.out.below ((Below.refl _ _).alloc (Nat.le_refl _) _)) (by simp; omega) ?_; intro A5 cap5 w5 o5 d5; rw [List.nil_append] at o5; have O5 := Lib.hid o5; have D5 := Lib.hid (((Below.refl w4.heap.size w4).alloc (Nat.le_refl _) _).trans d5.below); clear o5 d5)
    | fail)
  refine (inU_any w5.heap.size body false _ (in_new 33 cap5 _ (by simp) O5.out.cap_ (by omega) O5.out.bytes (Nat.le_refl _) false)).mono ?_; rintro e w6 ⟨rfl, h6⟩
  rw [RD.out.val1]
  rw [RD.out.ok1] at h6
  have H6 := Lib.hid h6
  clear h6
  go_wp2_with fail
  refine (inI_any w5.heap.size _ _ _ H6.out.1).mono ?_; rintro e w7 ⟨rfl, h7⟩
  rw [show (!true) = false from rfl] at h7 ⊢
  rw [RD.out.val2, UF.out]
  rw [RD.out.ok2] at h7
  have H7 := Lib.hid (H6.out.trans h7)
  clear h7 H6
  go_wp2_with fail
  refine (inS_any w5.heap.size _ _ 300 (by decide) (by decide) _ H7.out.1).mono ?_; rintro e w8 ⟨rfl, h8⟩
  rw [show (!true) = false from rfl] at h8 ⊢
  rw [RD.out.val3]
  rw [RD.out.ok3, RD.out.rest3] at h8
  have H8 := Lib.hid (H7.out.trans h8)
  clear h8 H7
  go_wp2_with fail
  refine (inEnd_any _ _ _ _ _ H8.out.1).mono ?_; rintro e w' ⟨rfl, rfl⟩
  rw [show En.isEnd [] (!true) = true from rfl]
  have hs5 := D5.out.size
  have D8 : Below w4.heap.size w4 w8 := (D5.out.alloc hs5 _).trans (H8.out.2.below (by simp; omega) hs5)
  have hs8 : w4.heap.size ≤ w8.heap.size := D8.size
  have x8 := (D8.cell (p := ⟨w1.heap.size + 1, 0, none⟩) hg4).trans x0
  have hg8 : w1.heap.size + 1 < w8.heap.size := by omega
  have HB8 := Lib.hid (HB4.out.trans (D8.mono hs40))
  have HT8 := Lib.hid (HT.out.below D8)
  clear H8 D5 O5 D8 x0 k0
  by_cases hc0 : cut < 0
  · go_wp2
    go_ret
    exact ⟨rfl, HB8.out⟩
  · obtain ⟨c, rfl⟩ := Int.eq_ofNat_of_zero_le (show 0 ≤ cut by omega)
    by_cases hcb : c < body.length
    · have hcb' : (c : Int) < (body.length : Int) := by omega
      have SMc := SM.out c (by omega)
      have CB := Lib.hid (RD.out.cut c hcb)
      have HTc := Lib.hid (HT8.out.head c)
      have htl := Lib.hid (show (body.take c).length = c by rw [List.length_take]; omega)
      clear hc0
      go_wp2_with (first
        | (at_builtin; refine wp_app rfl (.tmp 87) (.tmp 94) rfl rfl rfl (OwnB.start w8 w8.heap.size (Nat.le_refl _)) (by simp) rfl htl.out.symm ((HTc.out.more (by omega)).below ((Below.refl _ _).alloc (Nat.le_refl _) _)) (by have := htl.out; simp; omega) ?_; intro A9 cap9 w9 o9 d9; rw [List.nil_append] at o9; have O9 := Lib.hid o9; have D9 := Lib.hid (((Below.refl w8.heap.size w8).alloc (Nat.le_refl _) _).trans d9.below); clear o9 d9)
        | fail)
      refine (inU_any w9.heap.size (body.take c) false _ (in_new 33 cap9 _ (by simp) O9.out.cap_ (by have := htl.out; omega) O9.out.bytes (Nat.le_refl _) false)).mono ?_; rintro e w10 ⟨rfl, h10⟩
      have H10 := Lib.hid h10
      clear h10
      go_wp2_with fail
      refine (inI_any w9.heap.size _ _ _ H10.out.1).mono ?_; rintro e w11 ⟨rfl, h11⟩
      have H11 := Lib.hid (H10.out.trans h11)
      clear h11 H10
      go_wp2_with fail
      refine (inS_any w9.heap.size _ _ 300 (by decide) (by decide) _ H11.out.1).mono ?_; rintro e w12 ⟨rfl, h12⟩
      rw [show En.okS (En.restU (En.restU (body.take c) false) (!En.okU (body.take c) false)) (!En.okU (En.restU (body.take c) false) (!En.okU (body.take c) false)) 300 = false from CB.out] at h12
      have H12 := Lib.hid (H11.out.trans h12)
      clear h12 H11
      obtain ⟨AA, capA, hoA, _, _, _⟩ := H12.out.1
      obtain ⟨⟨_, y1⟩, _, _⟩ := obj2 hoA
      clear hoA
      go_wp2_with fail
      refine (inEnd_any _ _ _ _ _ H12.out.1).mono ?_; rintro e w' ⟨rfl, rfl⟩
      rw [show ∀ l, En.isEnd l (!false) = false from fun l => rfl]
      go_wp2
      go_ret
      have hs9 := D9.out.size
      have hs80 : w.heap.size ≤ w8.heap.size := by omega
      exact ⟨rfl, HB8.out.trans (((D9.out.alloc hs9 _).trans (H12.out.2.below (by simp; omega) hs9)).mono hs80)⟩
    · have hcb' : (body.length : Int) ≤ (c : Int) := by omega
      clear hc0
      go_wp2
      go_ret
      exact ⟨rfl, HB8.out⟩
theorem back_walk (u v cut : Int) (s : ByteArray) (u0 : 0 ≤ u) (u1 : u < 18446744073709551616) (v0 : -9223372036854775808 ≤ v) (v1 : v ≤ 9223372036854775807)
    (_hs : s.size ≤ 140737488355328) (c0 : -9223372036854775808 ≤ cut) (c1 : cut ≤ 9223372036854775807) (w : World) :
    Calls Try.prog 5 #[.int .u64 u, .int .i64 v, .string s, .int .i64 cut] w fun e w' => e = .returned (.bool true) ∧ Below w.heap.size w w' := by
  by_cases h : s.size ≤ 300
  · exact back_short u v cut s h u0 u1 v0 v1 c0 c1 w
  · exact back_long u v cut s (by omega) w
end Go.Proofs.Ythenjipljkphiaa
