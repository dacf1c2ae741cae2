/-
  The reference's low, value and PutRec at every argument: a number's bytes, and a record's encoding, as package frame has them.
-/
import Derived.Test.YtgjjpehelhdfdaaFrGet
import Derived.Test.YtgjjpehelhdfdaaFrSumRef
import Derived.Test.YtgjjpehelhdfdaaStepApp
namespace Go.Proofs.Ytgjjpehelhdfdaa
open Go.RowKit
set_option maxHeartbeats 1000000 in
theorem low_any (v : Int) (n : Nat) (v0 : 0 ≤ v) (v1 : v < 18446744073709551616) (hn : n ≤ 8) (w : World) :
    Calls Try.prog 22 #[.int .u64 v, .int .i64 n] w (AppPost w w.heap.size (Fr.lowB v n)) := by
  have hn' : (n : Int) ≤ 8 := by omega
  go_enter Try.func22, Try.ntmps22
  go_wp2
  go_loopw [0, 5, 6] (fun vv bv iv wr => ∃ (k : Nat) (ys : List Int) (u : Int) (A' : Option Addr) (cap' : Nat), k ≤ n ∧ 0 ≤ u ∧ u < 18446744073709551616 ∧ iv = .int .i64 k ∧ vv = .int .u64 u ∧ bv = .slice A' ys.length cap' ∧ ys.length = k ∧ ys ++ Fr.lowB u (n - k) = Fr.lowB v n ∧ OwnB wr w.heap.size A' cap' ys ∧ Grew w.heap.size w wr) (fun _ _ iv _ => n - (intOf iv).toNat)
  case atStart => exact ⟨0, [], v, none, 0, Nat.zero_le _, v0, v1, rfl, rfl, rfl, rfl, rfl, OwnB.none_ _ _, Grew.refl _ _⟩
  case round =>
    obtain ⟨k, ys, u, A', cap', hk, u0, u1, rfl, rfl, rfl, hl, heq, ho, hg⟩ := hrel
    have HL := Lib.hid hl
    have HE := Lib.hid heq
    have HO := Lib.hid ho
    have HG := Lib.hid hg
    have hs : w.heap.size ≤ wr.heap.size := hg.below.size
    clear hl heq ho hg
    by_cases hlt : k < n
    · have EL : Hid (Fr.lowB u (n - k) = u % 256 :: Fr.lowB (u / 256) (n - (k + 1))) := by
        have e : n - k = (n - (k + 1)) + 1 := by omega
        show _ = _
        rw [e, Fr.lowB]
      have hlt' : (k : Int) < (n : Int) := by omega
      go_wp2_with (at_builtin; refine wp_app rfl (.tmp 12) (.tmp 16) rfl rfl rfl (HO.out.grew ((Below.refl _ _).alloc (Nat.le_refl _) _) (Nat.le_refl _)) (by simp; omega) rfl rfl (Bytes.new1 wr _ (by omega) (by omega) _) (by have := HL.out; simp; omega) ?_; intro A2 cap2 w2 o2 d2; have O2 := Lib.hid o2; have D2 := Lib.hid d2; clear o2 d2)
      go_roundw
      case rel =>
        refine ⟨k + 1, _, u / 256, A2, cap2, by omega, by omega, by omega, by go_num, rfl, by simp, ?_, ?_, O2.out, HG.out.trans (((Grew.refl _ _).alloc hs _).trans D2.out)⟩
        · rw [List.length_append, HL.out]; simp
        · rw [← HE.out, EL.out, List.append_assoc]; rfl
      case measure => simp [intOf]; omega
    · have hkn : k = n := by omega
      subst hkn
      have E : Hid (ys = Fr.lowB v k) := by
        have := HE.out
        rw [Nat.sub_self, Fr.lowB, List.append_nil] at this
        exact this
      clear HL
      go_wp2
      go_ret
      rw [← E.out]
      exact AppPost.mk_ rfl HO.out HG.out
theorem low4_any (v : Int) (v0 : 0 ≤ v) (v1 : v < 18446744073709551616) (w : World) : Calls Try.prog 22 #[.int .u64 v, .int .i64 4] w (AppPost w w.heap.size (Fr.lowB v 4)) := low_any v 4 v0 v1 (by decide) w
theorem low8_any (v : Int) (v0 : 0 ≤ v) (v1 : v < 18446744073709551616) (w : World) : Calls Try.prog 22 #[.int .u64 v, .int .i64 8] w (AppPost w w.heap.size (Fr.lowB v 8)) := low_any v 8 v0 v1 (by decide) w

/-! ### value -/
def ValAt (zs : List Int) (j : Nat) (acc : Int) : Prop := acc = Fr.valB (zs.drop j) ∧ 0 ≤ acc ∧ (0 < j → acc * 256 + 255 < 18446744073709551616)
theorem ValAt.mk_ {zs : List Int} {j : Nat} (hb : Fr.Byte zs) (hl : zs.length ≤ 8) : ValAt zs j (Fr.valB (zs.drop j)) := by
  refine ⟨rfl, Fr.valB_nonneg (hb.drop _), fun hj => ?_⟩
  have h := Fr.valB_lt (hb.drop j)
  rw [List.length_drop] at h
  have hm : zs.length - j ≤ 7 := by omega
  have hp : (256 : Int) ^ (zs.length - j) ≤ 72057594037927936 := by
    have hk : zs.length - j = 0 ∨ zs.length - j = 1 ∨ zs.length - j = 2 ∨ zs.length - j = 3 ∨ zs.length - j = 4 ∨ zs.length - j = 5 ∨ zs.length - j = 6 ∨ zs.length - j = 7 := by omega
    rcases hk with e | e | e | e | e | e | e | e <;> rw [e] <;> decide
  omega
set_option maxHeartbeats 400000 in
theorem value_any (B : Nat) (A : Option Addr) (zs : List Int) (cap : Nat) (hl : zs.length ≤ 8) (w : World) (hb : Bytes w B A zs) :
    Calls Try.prog 24 #[.slice A zs.length cap] w fun e w' => e = .returned (.int .u64 (Fr.valB zs)) ∧ w = w' := by
  have H := Lib.hid hb
  have hl' : (zs.length : Int) ≤ 8 := by omega
  have V := Lib.hid (fun j => ValAt.mk_ (j := j) hb.byte hl)
  clear hb
  have S := Lib.hid (V.out zs.length)
  rw [List.drop_length] at S
  go_enter Try.func24, Try.ntmps24
  go_wp2
  go_loop [3, 4] (fun v i => ∃ (j : Nat) (acc : Int), j ≤ zs.length ∧ ValAt zs j acc ∧ i = .int .i64 ((j : Int) - 1) ∧ v = .int .u64 acc) (fun _ i => (intOf i + 1).toNat)
  case atStart => exact ⟨zs.length, 0, Nat.le_refl _, S.out, rfl, rfl⟩
  case round =>
    obtain ⟨j, acc, hj, hat, rfl, rfl⟩ := hrel
    have HA := Lib.hid hat
    clear hat S
    by_cases hp : 0 < j
    · obtain ⟨i, rfl⟩ : ∃ i, j = i + 1 := ⟨j - 1, by omega⟩
      obtain ⟨b, off, z, rfl, hbb, hc, hz, z0, z1⟩ := H.out.at_ (show i < zs.length by omega)
      have a0 := HA.out.2.1
      have a1 := HA.out.2.2 hp
      have E : Hid (acc * 256 + z = Fr.valB (zs.drop i)) := by
        show _ = _
        rw [drop_cons zs i z (by omega) hz.out, Fr.valB, ← HA.out.1]; omega
      have hi0 : (0 : Int) ≤ (i : Int) := by omega
      have hi1 : (i : Int) < (zs.length : Int) := by omega
      rw [show ((i + 1 : Nat) : Int) - 1 = (i : Int) by omega]
      go_wp2
      go_round
      case rel => exact ⟨i, _, by omega, V.out i, rfl, by rw [E.out]⟩
      case measure => simp [intOf]
    · have e0 : j = 0 := by omega
      subst e0
      have E := Lib.hid HA.out.1
      go_wp2
      go_ret
      exact ⟨ret_int E.out, rfl⟩

/-! ### PutRec -/
def PutRPost (w : World) (ys : List Int) (e : Ending) (w' : World) : Prop :=
  ∃ zs A cap, Hid (zs = ys) ∧ e = .returned (.tuple #[.slice A zs.length cap, .bool true]) ∧ OwnB w' w.heap.size A cap zs ∧ Below w.heap.size w w'
theorem PutRPost.mk_ {w w' : World} {ys zs : List Int} {A : Option Addr} {cap n : Nat} (hn : n = zs.length) (hz : zs = ys) (h : OwnB w' w.heap.size A cap zs) (g : Below w.heap.size w w') : PutRPost w ys (.returned (.tuple #[.slice A n cap, .bool true])) w' := by
  subst hn; exact ⟨zs, A, cap, Lib.hid hz, rfl, h, g⟩
/-- The box of a record of the reference's, kept where bytes alone are made. -/
def BoxR (w : World) (g : Nat) (at_ : Int) (s : ByteArray) : Prop := w.heap[g]? = some (.cells #[.int .u64 at_, .string s] 39 (0, 0))
theorem BoxR.grew {w w' : World} {g base : Nat} {at_ : Int} {s : ByteArray} (h : BoxR w g at_ s) (hg : Grew base w w') : BoxR w' g at_ s := hg.obj g _ _ _ h (by decide)
theorem BoxR.cells {w : World} {g : Nat} {at_ : Int} {s : ByteArray} (h : BoxR w g at_ s) : w.cell? ⟨g, 0, none⟩ = some (.int .u64 at_) ∧ w.cell? ⟨g, 1, none⟩ = some (.string s) := obj2 h
theorem BoxR.below {w w' : World} {g B : Nat} {at_ : Int} {s : ByteArray} (h : BoxR w g at_ s) (hg : Below B w w') (hB : w.heap.size ≤ B) : BoxR w' g at_ s :=
  (hg.block g (by have := lt_of_block h; omega)).trans h
theorem refSum_at (A : Option Addr) (zs : List Int) (n cap : Nat) (v : Int) (hn : n = zs.length) (hv : Su.ofV zs = v) (hl : zs.length ≤ 9223372036854775807) (w : World) (hb : Bytes w w.heap.size A zs) :
    Calls Try.prog 23 #[.slice A n cap] w fun e w' => e = .returned (.int .u32 v) ∧ Below w.heap.size w w' := by
  subst hn hv; exact refSum_any A zs cap hl w hb
theorem OwnB.drew {w : World} {base : Nat} {A : Option Addr} {cap : Nat} {zs : List Int} (h : OwnB w base A cap zs) : OwnB w.drew base A cap zs := ⟨h.1.drew, h.2⟩
theorem Grew.drew {base : Nat} {a w : World} (h : Grew base a w) : Grew base a w.drew := ⟨h.below.drew, h.obj⟩
set_option maxHeartbeats 4000000 in
theorem putref_core (p : List Int) (s : ByteArray) (hs : s.size = p.length) (hsb : strB_ s = p) (at_ : Int) (a0 : 0 ≤ at_) (a1 : at_ < 18446744073709551616) (hp : p.length ≤ 1024) (w : World) :
    Calls Try.prog 13 #[.agg #[.int .u64 at_, .string s]] w (PutRPost w (Fr.putV at_ p)) := by
  have HS := Lib.hid hs
  have SB := Lib.hid hsb
  have hs' : (s.size : Int) ≤ 1024 := by omega
  clear hs hsb
  go_enter Try.func13, Try.ntmps13
  go_wp2_with fail
  have X1 : Hid (BoxR (w.alloc (.cells #[.int .u64 at_, .string s] 39)) w.heap.size at_ s) := heap_alloc_new w _
  have G1 : Hid (Grew w.heap.size w (w.alloc (.cells #[.int .u64 at_, .string s] 39))) := (Grew.refl _ _).alloc (Nat.le_refl _) _
  generalize w.alloc (.cells #[.int .u64 at_, .string s] 39) = w1 at *
  obtain ⟨x0, x1⟩ := X1.out.cells
  have Y1 : Hid (BoxR w1.drew w.heap.size at_ s) := X1.out
  have G1' := Lib.hid G1.out.drew
  have tw : IntKind.u64.wrap (s.size : Int) = (s.size : Int) := IntWalk.u64_in _ (by omega)
  go_region_held3 (fun w' => w'.cell? ⟨w.heap.size, 0, none⟩ = some (.int .u64 at_) ∧ w'.cell? ⟨w.heap.size, 1, none⟩ = some (.string s)) ((first | go_keep | exact ⟨x0, x1⟩ | exact q2.out.cells | exact q3.out.cells | exact q4.out.cells))
    (first
      | (go_at_call 22; ((with_reducible refine (low4_any (s.size : Int) (by omega) (by omega) _).mono ?_); rintro e w2 ⟨y2, A2, c2, hy2, rfl, ho2, hg2⟩); have q2 := Lib.hid (Y1.out.grew hg2); have G2 := Lib.hid (G1'.out.trans ⟨hg2.below.mono G1'.out.below.size, hg2.obj⟩); have O2 := Lib.hid (ho2.low G1'.out.below.size); clear ho2 hg2)
      | (go_at_call 22; ((with_reducible refine (low8_any at_ a0 a1 _).mono ?_); rintro e w3 ⟨y3, A3, c3, hy3, rfl, ho3, hg3⟩); have q3 := Lib.hid (q2.out.grew hg3); have G3 := Lib.hid (G2.out.trans ⟨hg3.below.mono G2.out.below.size, hg3.obj⟩); have O3 := Lib.hid (ho3.low G2.out.below.size); have O2' := Lib.hid (O2.out.grew hg3.below (Nat.le_refl _)); clear ho3 hg3)
      | (refine step_app (by rfl) _ _ (by rfl) (by rfl) rfl O2'.out G3.out.below.size (by rfl) rfl O3.out.bytes (by rw [hy2.out, hy3.out, Fr.lowB_len, Fr.lowB_len]; decide) ?_; intro A4 c4 w4 o4 d4; have q4 := Lib.hid (q3.out.grew d4); have G4 := Lib.hid (G3.out.trans d4); have O4 := Lib.hid o4; clear o4 d4))
  clear x0 x1 tw Y1 X1 q2 q3 G1 G1' G2 G3 O2 O2' O3
  obtain ⟨x0, x1⟩ := q4.out.cells
  have HY : Hid (y2 ++ y3 = Fr.headV at_ p) := by show _ = _; rw [hy2.out, hy3.out, HS.out]; rfl
  have Y4 : Hid (BoxR w4.drew w.heap.size at_ s) := q4.out
  have hb4 := G4.out.below.size
  go_wp2_with fail
  go_region_held3 (fun w' => w'.cell? ⟨w.heap.size, 0, none⟩ = some (.int .u64 at_) ∧ w'.cell? ⟨w.heap.size, 1, none⟩ = some (.string s)) ((first | go_keep | exact ⟨x0, x1⟩ | exact q5.out.cells | exact q6.out.cells | exact q7.out.cells))
    (first
      | (refine step_app (by rfl) _ _ (by rfl) (by rfl) rfl (OwnB.start w4 w4.heap.size (Nat.le_refl _)).drew (by simp) (by rfl) (by simp) (O4.out.bytes.below ((Below.refl _ _).alloc (Nat.le_refl _) (.cells #[] 5)).drew) (by rw [HY.out]; simp [Fr.headV, Fr.lowB_len]) ?_; intro A5 c5 w5 o5 d5; rw [List.nil_append] at o5; have G5 := Lib.hid (((Grew.refl w4.heap.size w4).alloc (Nat.le_refl _) (.cells #[] 5)).drew.trans d5); have q5 := Lib.hid (q4.out.grew G5.out); have O5 := Lib.hid o5; clear o5 d5)
      | (refine step_app_str (by rfl) _ _ (by rfl) (by rfl) (by simp) O5.out G5.out.below.size (by rfl) (by rw [HY.out]; simp [Fr.headV, Fr.lowB_len]; omega) ?_; intro A6 c6 w6 o6 d6; have q6 := Lib.hid (q5.out.grew d6); have G6 := Lib.hid (G5.out.trans d6); have O6 := Lib.hid o6; clear o6 d6)
      | (go_at_call 23; refine (refSum_at A6 _ _ c6 (Fr.ckV (Fr.headV at_ p) p) (by simp) (by rw [HY.out, SB.out]; rfl) (by rw [HY.out, SB.out]; simp [Fr.headV, Fr.lowB_len]; omega) _ O6.out.bytes).mono ?_; rintro e w7 ⟨rfl, b7⟩; have q7 := Lib.hid (q6.out.below b7 (Nat.le_refl _)); have B7 := Lib.hid b7; clear b7))
  clear x0 x1 Y4 q4 q5 q6
  obtain ⟨x0, x1⟩ := q7.out.cells
  have G7 : Hid (Grew w4.heap.size w4 w7) := G6.out.trans ⟨B7.out.mono G6.out.below.size, fun g cs t fz hg _ => by rw [B7.out.block g (lt_of_block hg)]; exact hg⟩
  have O7 := Lib.hid (O4.out.grew G7.out.below (Nat.le_refl _))
  have W7 : Hid (Below w.heap.size w w7) := G4.out.below.trans (G7.out.below.mono hb4)
  have hb7 := W7.out.size
  have EP : Hid (Fr.putV at_ p = Fr.headV at_ p ++ (Fr.lowB (Fr.ckV (Fr.headV at_ p) p) 4 ++ p)) := by show _ = _; simp [Fr.putV, Fr.headV]
  have hcr := Fr.ckV_range (Fr.headV at_ p) p
  clear G5 G6 G7 O4 O5 O6 B7 G4
  generalize Fr.ckV (Fr.headV at_ p) p = ck at *
  have tw : IntKind.u64.wrap ck = ck := IntWalk.u64_in _ (by omega)
  have Y7 : Hid (BoxR w7.drew w.heap.size at_ s) := q7.out
  have W7' : Hid (Below w.heap.size w w7.drew) := W7.out.drew
  have O7' := Lib.hid O7.out.drew
  go_wp2_with fail
  go_region_held3 (fun w' => w'.cell? ⟨w.heap.size, 0, none⟩ = some (.int .u64 at_) ∧ w'.cell? ⟨w.heap.size, 1, none⟩ = some (.string s)) ((first | go_keep | exact ⟨x0, x1⟩ | exact q8.out.cells | exact q9.out.cells | exact q10.out.cells))
    (first
      | (go_at_call 22; ((with_reducible refine (low4_any ck hcr.1 (by omega) _).mono ?_); rintro e w8 ⟨y8, A8, c8, hy8, rfl, o8, g8⟩); have q8 := Lib.hid (Y7.out.grew g8); have O8 := Lib.hid o8; have W8 := Lib.hid (W7'.out.trans (g8.below.mono hb7)); have O9 := Lib.hid (O7'.out.grew g8.below (Nat.le_refl _)); clear o8 g8)
      | (refine step_app (by rfl) _ _ (by rfl) (by rfl) (by simp) O9.out W8.out.size (by rfl) rfl O8.out.bytes (by rw [HY.out, hy8.out]; simp [Fr.headV, Fr.lowB_len]) ?_; intro A9 c9 w9 o9 d9; have q9 := Lib.hid (q8.out.grew d9); have W9 := Lib.hid (W8.out.trans d9.below); have O10 := Lib.hid o9; clear o9 d9)
      | (refine step_app_str (by rfl) _ _ (by rfl) (by rfl) (by simp) O10.out W9.out.size (by rfl) (by rw [HY.out, hy8.out]; simp [Fr.headV, Fr.lowB_len]; omega) ?_; intro A10 c10 w10 o10 d10; have q10 := Lib.hid (q9.out.grew d10); have W10 := Lib.hid (W9.out.trans d10.below); have O11 := Lib.hid o10; clear o10 d10))
  clear tw
  go_wp2
  go_ret2
  refine PutRPost.mk_ (by simp) ?_ O11.out W10.out
  rw [HY.out, SB.out, hy8.out, EP.out]
  simp
theorem putref_any (p : List Int) (hb : Fr.Byte p) (at_ : Int) (a0 : 0 ≤ at_) (a1 : at_ < 18446744073709551616) (hp : p.length ≤ 1024) (w : World) :
    Calls Try.prog 13 #[.agg #[.int .u64 at_, .string (strOfNums p)]] w (PutRPost w (Fr.putV at_ p)) :=
  putref_core p _ (strOfNums_size p) (strB_back hb) at_ a0 a1 hp w
set_option maxHeartbeats 400000 in
theorem putref_large (p : List Int) (at_ : Int) (hp : 1024 < p.length) (w : World) :
    Calls Try.prog 13 #[.agg #[.int .u64 at_, .string (strOfNums p)]] w fun e w' => e = .returned (.tuple #[.slice none 0 0, .bool false]) ∧ Below w.heap.size w w' := by
  have hs : (1024 : Int) < ((strOfNums p).size : Int) := by rw [strOfNums_size]; omega
  generalize strOfNums p = s at *
  clear hp
  go_enter Try.func13, Try.ntmps13
  go_wp2
  go_ret2
  exact ⟨rfl, (Below.refl _ _).alloc (Nat.le_refl _) _⟩
end Go.Proofs.Ytgjjpehelhdfdaa
