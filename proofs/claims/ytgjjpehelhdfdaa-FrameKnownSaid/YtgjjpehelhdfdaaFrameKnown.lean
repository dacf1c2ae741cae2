/-
  The law FrameKnown: the fixed examples of chapter 4.
-/
import Derived.Test.YtgjjpehelhdfdaaFrameAll
import Derived.Test.YtgjjpehelhdfdaaFrameCuts
import Derived.Test.YtgjjpehelhdfdaaOwnStore
import Derived.Deep.Cut
namespace Go.Proofs.Ytgjjpehelhdfdaa
open Go.RowKit
theorem made_lit (n : Nat) (hn : n ≤ 100000) (W : World) : (Instr.makeSlice 23 (.int .i64 (n : Int)) (.int .i64 (n : Int))).run Try.prog W = .ok (.slice (some ⟨W.heap.size, 0, none⟩) n n) (W.alloc (.cells (madeCells #[.int .u8 0] n) 5)) := by
  obtain ⟨i, hi, hz, hs, hy⟩ := info_parts u8_info
  have hr := run_make (P := Try.prog) W 23 5 i _ Try.underlying23 hi hz .i64 .i64 n n (by omega) (Int.le_refl _) (by rw [hy]; omega) (by omega)
  rw [hs, Int.toNat_natCast, Nat.mul_one] at hr
  exact hr
theorem made_bytes (W : World) (n : Nat) : Bytes (W.alloc (.cells (madeCells #[.int .u8 0] n) 5)) (W.heap.size + 1) (some ⟨W.heap.size, 0, none⟩) (List.replicate n 0) := by
  have e : madeCells #[Value.int .u8 0] n = ((List.replicate n (0 : Int)).map (Value.int .u8)).toArray := by
    have := toList_madeCells_one (Value.int .u8 0) n
    rw [List.map_replicate, ← this]
  refine Bytes.new W _ ?_ (0, 0) _ e
  simp [List.all_replicate, isByte]
theorem known_all (V Z : List Int) (hV : V = Fr.putV 7 Z) (hZ : Z.length = 1024) : Fr.allV (V ++ [1, 0]) = ([(7, Z)], 1040, 3) := by
  subst hV
  obtain ⟨g1, g2, g3, g4, g5⟩ := Fr.get_put 7 Z [1, 0] (by decide) (by decide) (by omega)
  have hd : (Fr.putV 7 Z ++ [1, 0]).drop (16 + Z.length) = [1, 0] := by
    rw [List.drop_append, List.drop_of_length_le (by rw [Fr.putV_len]; omega), Fr.putV_len]; simp
  have hb : Fr.allV [1, 0] = ([], 0, 3) := Fr.allV_bad (b := [1, 0]) (by decide) (by decide)
  rw [Fr.allV_step (by rw [List.length_append, Fr.putV_len]; omega) g1, g3, g4, g5, hd, hb, hZ]
  rfl
theorem known_at (V Z : List Int) (hV : V = Fr.putV 7 Z) (h4 : Z.getD 4 0 = 0) : V.getD 20 0 = 0 := by
  have e := (Fr.parts (Fr.lowB Z.length 4) (Fr.lowB 7 8) (Fr.lowB (Fr.ckV (Fr.headV 7 Z) Z) 4) Z (Fr.lowB_len _ _) (Fr.lowB_len _ _) (Fr.lowB_len _ _)).2.2.2.2
  have e2 : V.drop 16 = Z := by rw [hV]; exact e
  have e3 : V.getD 20 0 = (V.drop 16).getD 4 0 := by rw [List.getD_eq_getElem?_getD, List.getD_eq_getElem?_getD, List.getElem?_drop]
  rw [e3, e2, h4]
theorem known_size : Fr.errG [1, 4, 0, 0] = 14 := by unfold Fr.errG; rw [if_neg (by decide), if_pos (by decide)]
def Get14 (w : World) (e : Ending) (w' : World) : Prop :=
  ∃ A c, e = .returned (.tuple #[.agg #[.int .u64 0, .slice A 0 c], .int .i64 0, .int .i64 14]) ∧ Hid (Below w.heap.size w w')
theorem known_get14 (w : World) : Calls Try.prog 11 #[.slice (some ⟨w.heap.size, 0, none⟩) 4 4] (w.alloc (.cells #[.int .u8 1, .int .u8 4, .int .u8 0, .int .u8 0] 5)) (Get14 w) := by
  have hb : Bytes (w.alloc (.cells #[.int .u8 1, .int .u8 4, .int .u8 0, .int .u8 0] 5)) (w.heap.size + 1) (some ⟨w.heap.size, 0, none⟩) [1, 4, 0, 0] := Bytes.new w [1, 4, 0, 0] (by decide) (0, 0) _ rfl
  have sz : (w.alloc (.cells #[.int .u8 1, .int .u8 4, .int .u8 0, .int .u8 0] 5)).heap.size = w.heap.size + 1 := by simp
  rw [← sz] at hb
  refine (get_bad (some ⟨w.heap.size, 0, none⟩) [1, 4, 0, 0] 4 4 14 rfl known_size (by decide) (by decide) (by decide) _ hb).mono ?_
  rintro e w' ⟨A, c, h1, h2⟩
  exact ⟨A, c, h1, Lib.hid (below_on ((Below.refl w.heap.size w).alloc (Nat.le_refl _) _) h2.out)⟩
theorem known_put (Ab Ap : Option Addr) (Z V : List Int) (capb capp : Nat) (hV : V = Fr.putV 7 Z) (hZ : Z.length = 1024) (w : World) (hb : Bytes w w.heap.size Ab [120]) (hq : Bytes w w.heap.size Ap Z) :
    Calls Try.prog 10 #[.slice Ab 1 capb, .agg #[.int .u64 7, .slice Ap 1024 capp]] w (PutM w ([120] ++ V) 1041) := by
  have h := put_more Ab Ap [120] Z capb capp 7 (by decide) (by decide) (by decide) (by omega) w hb hq
  rw [← hV, hZ] at h
  exact h
set_option maxHeartbeats 8000000 in
set_option maxRecDepth 100000 in
theorem known_core (Z V : List Int) (hZ : Z.length = 1024) (hZr : Z = List.replicate 1024 0) (hZ4 : Z.getD 4 0 = 0) (hbyte : Fr.Byte Z) (hV : V = Fr.putV 7 Z) (hVl : V.length = 1040) (w : World) :
    Calls Try.prog 3 #[] w fun e w' => e = .returned (.bool true) ∧ Below w.heap.size w w' := by
  have HV := Lib.hid hV
  have HZ := Lib.hid hZ
  have HL := Lib.hid hVl
  have ZR := Lib.hid hZr
  have V20 := Lib.hid (known_at V Z hV hZ4)
  have ALLK := Lib.hid (known_all V Z hV hZ)
  have E19 : Hid (Fr.errG (V.take 19) = 3) := by show _ = _; rw [hV]; exact Fr.get_cut 7 Z 19 (by omega) (by omega)
  have E2 : Hid (Fr.errG (V.set 20 1) = 2) := by
    have h20 := V20.out
    rw [hV] at h20
    show _ = _
    rw [hV]; exact Fr.get_turned 7 Z 20 1 hbyte (by omega) (by decide) (by omega) (by decide) (by decide) (by rw [h20]; decide)
  have M1 : ∀ W, (Instr.makeSlice 23 (.int .i64 1025) (.int .i64 1025)).run Try.prog W = .ok (.slice (some ⟨W.heap.size, 0, none⟩) 1025 1025) (W.alloc (.cells (madeCells #[.int .u8 0] 1025) 5)) := made_lit 1025 (by decide)
  have M2 : ∀ W, (Instr.makeSlice 23 (.int .i64 1024) (.int .i64 1024)).run Try.prog W = .ok (.slice (some ⟨W.heap.size, 0, none⟩) 1024 1024) (W.alloc (.cells (madeCells #[.int .u8 0] 1024) 5)) := made_lit 1024 (by decide)
  have hcv := conv_lit
  clear hZ hZr hZ4 hbyte hV hVl
  go_enter Try.func3, Try.ntmps3
  go_wp2_with fail
  refine (awake_any _).mono ?_; rintro e w1 ⟨rfl, hb1⟩
  have B1 := Lib.hid hb1
  clear hb1
  go_wp2_with fail
  refine (put_large _ _ 1 1025 _ _ _ (by decide) _).mono ?_; rintro e w2 ⟨rfl, g2⟩
  have B2 := Lib.hid (B1.out.trans ((((Below.refl w1.heap.size w1).alloc (Nat.le_refl _) (.cells #[.int .u8 120] 5 (1, 2))).alloc (by simp) (.cells (madeCells #[.int .u8 0] 1025) 5)).trans (g2.below.mono (by simp; omega)) |>.mono B1.out.size))
  clear g2
  have L1 : Bytes (w2.alloc (.cells #[.int .u8 120] 5 (1, 2))) (w2.heap.size + 1) (some ⟨w2.heap.size, 0, none⟩) [120] := Bytes.new w2 [120] (by decide) (1, 2) _ rfl
  have sz1 : (w2.alloc (.cells #[.int .u8 120] 5 (1, 2))).heap.size = w2.heap.size + 1 := by simp
  have L2 : Hid (Bytes ((w2.alloc (.cells #[.int .u8 120] 5 (1, 2))).alloc (.cells (madeCells #[.int .u8 0] 1024) 5)) ((w2.alloc (.cells #[.int .u8 120] 5 (1, 2))).alloc (.cells (madeCells #[.int .u8 0] 1024) 5)).heap.size (some ⟨w2.heap.size, 0, none⟩) [120]) :=
    (L1.below ((Below.refl _ _).alloc (Nat.le_of_eq sz1.symm) _)).more (by rw [← sz1]; simp)
  have Z2 : Hid (Bytes ((w2.alloc (.cells #[.int .u8 120] 5 (1, 2))).alloc (.cells (madeCells #[.int .u8 0] 1024) 5)) ((w2.alloc (.cells #[.int .u8 120] 5 (1, 2))).alloc (.cells (madeCells #[.int .u8 0] 1024) 5)).heap.size (some ⟨w2.heap.size + 1, 0, none⟩) Z) := by
    have h := made_bytes (w2.alloc (.cells #[.int .u8 120] 5 (1, 2))) 1024
    rw [← ZR.out, sz1] at h
    exact h.more (by rw [← sz1]; simp)
  have W2 : Hid (Below w2.heap.size w2 ((w2.alloc (.cells #[.int .u8 120] 5 (1, 2))).alloc (.cells (madeCells #[.int .u8 0] 1024) 5))) := ((Below.refl _ _).alloc (Nat.le_refl _) _).alloc (by rw [sz1]; omega) _
  clear L1 sz1
  go_wp2_with fail
  refine (known_put _ _ Z V _ _ HV.out HZ.out _ L2.out Z2.out).mono ?_; rintro e w3 ⟨A3, c3, rfl, o3, b3⟩
  have B3 := Lib.hid (below_on (below_on B2.out W2.out) b3.out)
  clear L2 Z2 W2
  clear b3 B1 B2 M1 M2 hcv
  have oc := Lib.hid o3.out.cap_
  have lc : Hid (1041 ≤ c3) := by have := oc.out; rw [List.length_append, HL.out] at this; exact this
  have s20 : ∀ W, (Instr.slice 23 (.slice A3 1041 c3) (some (.int .i64 1)) (some (.int .i64 20)) none).run Try.prog W = .ok (.slice (tailA A3 c3 1) 19 (c3 - 1)) W := fun W => slice_mid A3 1041 c3 1 20 (by decide) (by have := lc.out; omega) .i64 .i64 W
  have s1 : ∀ W, (Instr.slice 23 (.slice A3 1041 c3) (some (.int .i64 1)) none none).run Try.prog W = .ok (.slice (tailA A3 c3 1) 1040 (c3 - 1)) W := fun W => slice_from A3 1041 c3 1 (by decide) .i64 W
  have VB : Hid (∀ W, Below w3.heap.size w3 W → Bytes W w3.heap.size (tailA A3 c3 1) V) := fun W hW => (o3.out.bytes.below hW).tail 1 c3 oc.out
  go_wp2_with fail
  refine (get_bad _ (V.take 19) 19 (c3 - 1) 3 (by rw [List.length_take, HL.out]; decide) E19.out (by decide) (by rw [List.length_take, HL.out]; decide) (by rw [List.length_take, HL.out]; have := lc.out; omega) _ ((VB.out _ (Below.refl _ _)).head 19)).mono ?_; rintro e w4 ⟨A4, c4, rfl, b4⟩
  have D4 := Lib.hid (b4.out.alloc b4.out.size (.cells #[.int .u64 0, .slice A4 0 c4] 30))
  clear b4
  go_wp2_with fail
  generalize w4.alloc (.cells #[.int .u64 0, .slice A4 0 c4] 30) = w4' at *
  refine (get_bad none [] 0 0 3 rfl (by decide) (by decide) (by decide) (Nat.le_refl _) _ Bytes.nil_).mono ?_; rintro e w5 ⟨A5, c5, rfl, b5⟩
  have D5 := Lib.hid ((below_on D4.out b5.out).alloc (below_on D4.out b5.out).size (.cells #[.int .u64 0, .slice A5 0 c5] 30))
  clear b5 D4
  go_upto_region 9 with fail
  generalize w5.alloc (.cells #[.int .u64 0, .slice A5 0 c5] 30) = w5' at *
  go_wp2_with fail
  refine (known_get14 w5').mono ?_; rintro e w6 ⟨A6, c6, rfl, b6⟩
  have D6a := Lib.hid (below_on D5.out b6.out)
  have D6 := Lib.hid (D6a.out.alloc D6a.out.size (.cells #[.int .u64 0, .slice A6 0 c6] 30))
  clear b6 D5 D6a
  go_upto_region 10 with fail
  generalize w6.alloc (.cells #[.int .u64 0, .slice A6 0 c6] 30) = w6' at *
  have hs6 := D6.out.size
  go_upto_region 11 with (at_builtin; refine wp_app rfl (.tmp 67) (.tmp 69) rfl rfl rfl (OwnB.start w6' w3.heap.size hs6) (by simp; omega) rfl HL.out.symm (VB.out _ (D6.out.alloc hs6 _)) (by rw [HL.out]; decide) ?_; intro A7 c7 w7 o7 d7; rw [List.nil_append] at o7; have O7 := Lib.hid o7; have D7 := Lib.hid ((D6.out.alloc hs6 (.cells #[] 5)).trans d7.below); clear o7 d7)
  rw [HL.out]
  clear D6 hs6 s20
  obtain ⟨g, rfl, hg1, hg2⟩ := O7.out.shape (by rw [HL.out]; decide)
  obtain ⟨cc, cf⟩ := O7.out.cell (j := 20) (by rw [HL.out]; decide)
  rw [V20.out] at cc
  go_upto_region 12 with fail
  have O8 := Lib.hid (O7.out.stored 20 1 (by decide) (by decide))
  have D8 : Hid (Below w3.heap.size w3 (w7.setCell ⟨g, 20, none⟩ (.int .u8 1))) := D7.out.setCell (p := ⟨g, 20, none⟩) hg1 _
  generalize w7.setCell ⟨g, 20, none⟩ (.int .u8 1) = w8 at *
  clear cc cf O7 D7 hg2
  go_wp2_with fail
  refine (get_bad _ (V.set 20 1) 1040 c7 2 (by rw [List.length_set, HL.out]) E2.out (by decide) (by rw [List.length_set, HL.out]; decide) O8.out.cap_ _ O8.out.bytes).mono ?_; rintro e w9 ⟨A9, c9, rfl, b9⟩
  have D9 := Lib.hid ((below_on D8.out b9.out).alloc (below_on D8.out b9.out).size (.cells #[.int .u64 0, .slice A9 0 c9] 30))
  clear b9 D8 O8
  go_upto_region 13 with fail
  generalize w9.alloc (.cells #[.int .u64 0, .slice A9 0 c9] 30) = w9' at *
  have hs9 := D9.out.size
  go_wp2_with (first
    | (at_builtin; refine wp_app rfl (.tmp 80) (.tmp 82) rfl rfl rfl (OwnB.start w9' w3.heap.size hs9) (by simp; omega) rfl HL.out.symm (VB.out _ (D9.out.alloc hs9 _)) (by rw [HL.out]; decide) ?_; intro A10 c10 w10 o10 d10; rw [List.nil_append] at o10; have O10 := Lib.hid o10; have D10 := Lib.hid ((D9.out.alloc hs9 (.cells #[] 5)).trans d10.below); clear o10 d10)
    | (at_builtin; refine wp_app rfl (.tmp 83) (.tmp 84) rfl rfl rfl (O10.out.grew ((Below.refl w10.heap.size w10).alloc (Nat.le_refl _) (.cells #[.int .u8 1, .int .u8 0] 5)) (Nat.le_refl _)) (by have := D10.out.size; simp; omega) rfl rfl (Bytes.new w10 [1, 0] (by decide) _ _ rfl) (by rw [HL.out]; decide) ?_; intro A11 c11 w11 o11 d11; have O11 := Lib.hid o11; have D11 := Lib.hid ((D10.out.alloc D10.out.size (.cells #[.int .u8 1, .int .u8 0] 5)).trans d11.below); clear o11 d11)
    | fail)
  refine (all_at _ (V ++ [1, 0]) [(7, Z)] _ 1 1040 c11 3 (by simp) ALLK.out rfl (by rw [List.length_append, HL.out]; decide) O11.out.cap_ _ O11.out.bytes).mono ?_; rintro e w12 ⟨A12, c12, rfl, o12, b12⟩
  have D12 := Lib.hid (below_on D11.out b12.out)
  clear o12 b12 D11 D10 D9 O10 O11
  go_wp2_with fail
  refine (all_at none [] [] 0 0 0 0 0 rfl (Fr.allV_nil rfl) rfl (by decide) (Nat.le_refl _) _ Bytes.nil_).mono ?_; rintro e w13 ⟨A13, c13, rfl, o13, b13⟩
  have D13 := Lib.hid (B3.out.trans ((below_on D12.out b13.out).mono B3.out.size))
  clear o13 b13 D12
  go_wp2
  go_ret
  exact ⟨rfl, D13.out⟩
theorem known_walk (w : World) : Calls Try.prog 3 #[] w fun e w' => e = .returned (.bool true) ∧ Below w.heap.size w w' := by
  refine known_core (List.replicate 1024 0) _ (List.length_replicate ..) rfl ?_ ?_ rfl ?_ w
  · rw [List.getD_eq_getElem?_getD, List.getElem?_replicate, if_pos (by decide)]; rfl
  · intro z hz
    have := List.eq_of_mem_replicate hz
    subst this
    exact ⟨by decide, by decide⟩
  · rw [Fr.putV_len, List.length_replicate]
end Go.Proofs.Ytgjjpehelhdfdaa
