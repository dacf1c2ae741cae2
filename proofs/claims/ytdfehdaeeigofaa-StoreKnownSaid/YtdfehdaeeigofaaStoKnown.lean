/-
  The law StoreKnown: the fixed examples of chapter 5.
-/
import Derived.Test.YtdfehdaeeigofaaStoGuest
import Derived.Deep.CutRange
import Derived.Deep.RegionLaw
namespace Go.Proofs.Ytdfehdaeeigofaa
open Go.RowKit St

theorem made_lit (n : Nat) (hn : n ≤ 100000) (W : World) : (Instr.makeSlice 28 (.int .i64 (n : Int)) (.int .i64 (n : Int))).run Try.prog W = .ok (.slice (some ⟨W.heap.size, 0, none⟩) n n) (W.alloc (.cells (madeCells #[.int .u8 0] n) 5)) := by
  obtain ⟨i, hi, hz, hs, hy⟩ := info_parts u8_info
  have hr := run_make (P := Try.prog) W 28 5 i _ Try.underlying28 hi hz .i64 .i64 n n (by omega) (Int.le_refl _) (by rw [hy]; omega) (by omega)
  rw [hs, Int.toNat_natCast, Nat.mul_one] at hr
  exact hr
theorem full_run {w0 w : World} {T : Nat} {s : S} (h : Run w0 w T s) (sn : ByteArray) (hsn : sn.size ≤ 9223372036854775807) (A0 : Option Addr) (n cap0 : Nat) (hE : chk s [bs sn] = 0) (hF : s.room - total s.fs < n) :
    Calls Try.prog 11 #[.pointer (some ⟨T, 0, none⟩), .string sn, .slice A0 n cap0] w (OpRun w0 T 6 s) := by
  obtain ⟨own, p, ho, h0⟩ := h
  exact op_run ho h0 (app_full T own s w p sn hsn A0 n cap0 hE (.inl hF)) rfl rfl
/-- What the first calls find: a store of 10 bytes without files. -/
theorem ints_lit2 (w : World) (n : Nat) (hn : n = w.heap.size) (x y : Int) (fr : Nat × Nat) : Ints (w.alloc (.cells #[.int .i64 x, .int .i64 y] 3 fr)) (some ⟨n, 0, none⟩) [x, y] := fun _ => by
  subst hn
  refine ⟨w.heap.size, 0, rfl, fun i hi => ?_⟩
  simp at hi
  rw [Nat.zero_add, World.cell?_alloc_mark]
  rcases (show i = 0 ∨ i = 1 by omega) with rfl | rfl <;> simp
theorem RunB.T_lt {w0 w : World} {T : Nat} {s : S} {G : List (Nat × Obj)} (h : RunB w0 w T s G) : T < w.heap.size := by obtain ⟨own, p, _⟩ := h; exact p.lt _ p.ownT
theorem texts_runB {w0 w : World} {T : Nat} {s : S} {G : List (Nat × Obj)} (h : RunB w0 w T s G) (A B : Option Addr) (ss : List ByteArray) (n m ca cb : Nat) (hn : n = ss.length) (hm : m = ss.length) (hs : ss.length ≤ 1000) (ha : Strs w w.heap.size A ss) (hb : Strs w w.heap.size B ss) :
    Calls Try.prog 24 #[.slice A n ca, .slice B m cb] w fun e w' => e = .returned (.bool true) ∧ Hid (RunB w0 w' T s G) :=
  (texts_same A B ss n m ca cb hn hm hs w ha hb).mono fun _ _ ⟨h1, j, h2⟩ => ⟨h1, Lib.hid (h2 ▸ h.grow (below_n (Below.refl _ _) j))⟩
theorem strs_lit2 (w : World) (x y : ByteArray) (hx : x.size ≤ 9223372036854775807) (hy : y.size ≤ 9223372036854775807) (fr : Nat × Nat) : Strs (w.alloc (.cells #[.string x, .string y] 9 fr)) (w.alloc (.cells #[.string x, .string y] 9 fr)).heap.size (some ⟨w.heap.size, 0, none⟩) [x, y] := by
  refine ⟨fun i hi => ?_, fun _ => ⟨w.heap.size, 0, rfl, by simp, fun i hi => ?_⟩⟩
  · simp at hi
    rcases (show i = 0 ∨ i = 1 by omega) with rfl | rfl
    · exact hx
    · exact hy
  · simp at hi
    rw [Nat.zero_add, World.cell?_alloc_mark]
    rcases (show i = 0 ∨ i = 1 by omega) with rfl | rfl <;> simp
/-- The states behind the first call that succeeds. -/
def k1 : S := ⟨10, [⟨[102], [104, 101, 108, 108, 111], 0⟩], false, 0, []⟩
def k2 : S := ⟨10, [⟨[102], [104, 101, 108, 108], 0⟩], false, 0, []⟩
def k3 : S := ⟨10, [⟨[103], [104, 101, 108, 108], 4⟩], false, 0, []⟩
def k4 : S := ⟨10, [⟨[97], [], 0⟩, ⟨[103], [104, 101, 108, 108], 4⟩], false, 0, []⟩
def k5 : S := ⟨10, [⟨[97], [120, 121, 122], 0⟩, ⟨[103], [104, 101, 108, 108], 4⟩], false, 0, []⟩
def k6 : S := ⟨10, [⟨[97], [120, 121, 122], 0⟩, ⟨[103], [104, 101, 108, 108, 33], 4⟩], false, 0, []⟩
def k7 : S := ⟨10, [⟨[97], [120, 121], 2⟩, ⟨[103], [104, 101, 108, 108], 4⟩], true, 0, []⟩
def k8 : S := ⟨10, [⟨[97], [120, 121], 2⟩, ⟨[103], [104, 101, 108, 108], 4⟩], false, 0, []⟩
def k9 : S := ⟨10, [⟨[97], [120, 121], 2⟩, ⟨[103], [104, 101, 108, 108], 4⟩], false, 2, []⟩
def k10 : S := ⟨10, [⟨[97], [120, 121, 49], 2⟩, ⟨[103], [104, 101, 108, 108], 4⟩], false, 1, []⟩
def k11 : S := ⟨10, [⟨[97], [120, 121], 2⟩, ⟨[103], [104, 101, 108, 108], 4⟩], false, 1, [9]⟩
set_option maxRecDepth 20000 in
set_option maxHeartbeats 40000000 in
theorem known_walk (w : World) : Calls Try.prog 3 #[] w fun e w' => e = .returned (.bool true) ∧ Below w.heap.size w w' := by
  have hcv := conv_lit
  have M11 : ∀ W, (Instr.makeSlice 28 (.int .i64 11) (.int .i64 11)).run Try.prog W = .ok (.slice (some ⟨W.heap.size, 0, none⟩) 11 11) (W.alloc (.cells (madeCells #[.int .u8 0] 11) 5)) := made_lit 11 (by decide)
  go_enter Try.func3, Try.ntmps3
  go_wp2_with fail
  refine (awake_any _).mono ?_; rintro e w1 ⟨rfl, hb1⟩
  have B1 := Lib.hid hb1
  clear hb1
  go_wp2_with fail
  refine (new_bad 0 (by decide) _).mono ?_; rintro e w' ⟨rfl, rfl⟩
  go_wp2_with fail
  refine (new_bad 16777217 (by decide) _).mono ?_; rintro e w' ⟨rfl, rfl⟩
  go_wp2_with fail
  refine (new_run 10 10 rfl (by decide) (by decide) w w1 B1.out).mono ?_; rintro e w2 ⟨T, rfl, r2⟩
  go_upto_region 8 with fail
  have CA := Lib.hid (fun (W : World) (r : Run w W T (s0 10)) => append_run r ⟨#[65]⟩ (by decide) none 0 0 [] rfl ⟨fun i hi => by simp at hi, fun hp => by simp at hp⟩ 1 (s0 10) rfl rfl)
  have CF := Lib.hid (fun (W : World) (A0 : Option Addr) (r : Run w W T (s0 10)) => full_run r ⟨#[102]⟩ (by decide) A0 11 11 rfl (by decide))
  have CS := Lib.hid (fun (W : World) (r : Run w W T (s0 10)) => sync_run r ⟨#[102]⟩ (by decide) 4 (s0 10) rfl rfl)
  have R2 : Hid (Run w w2 T (s0 10)) := r2
  clear r2
  go_cut [7, 8, 9] from 46 to 52 (fun a b c wx => a = .int .i64 1 ∧ b = .int .i64 6 ∧ c = .int .i64 4 ∧ Hid (Run w wx T (s0 10)))
  case first =>
    go_region_law (first
        | (go_simp; go_at_call 11; (with_reducible refine (CA.out _ ?_).mono ?_); (first | exact R2.out | exact R2.out.draw 1 | exact R2.out.draw 0 | exact R2.out.draw _ | exact R2.out.alloc _ | exact (R2.out.draw 1).alloc _ | exact (R2.out.alloc _).draw 1 | exact (R2.out.draw _).alloc _ | exact (R2.out.alloc _).draw _); rintro e w3 ⟨rfl, R3⟩)
        | (go_simp; go_at_call 11; (with_reducible refine (CF.out _ _ ?_).mono ?_); (first | exact R3.out | exact R3.out.draw 1 | exact R3.out.draw 0 | exact R3.out.draw _ | exact R3.out.alloc _ | exact (R3.out.draw 1).alloc _ | exact (R3.out.alloc _).draw 1 | exact (R3.out.draw _).alloc _ | exact (R3.out.alloc _).draw _); rintro e w4 ⟨rfl, R4⟩)
        | (go_simp; go_at_call 12; (with_reducible refine (CS.out _ ?_).mono ?_); (first | exact R4.out | exact R4.out.draw 1 | exact R4.out.draw 0 | exact R4.out.draw _ | exact R4.out.alloc _ | exact (R4.out.draw 1).alloc _ | exact (R4.out.alloc _).draw 1 | exact (R4.out.draw _).alloc _ | exact (R4.out.alloc _).draw _); rintro e w5 ⟨rfl, R5⟩))
    all_goals (go_wp2_with fail; go_meet; exact ⟨rfl, rfl, rfl, R5⟩)
  case rest =>
    obtain ⟨rfl, rfl, rfl, R5⟩ := hcut
    clear CA CF CS R2
    go_wp2_with fail
    refine (append_run (R5.out.alloc _) ⟨#[102]⟩ (by decide) _ 5 5 [104, 101, 108, 108, 111] rfl (Bytes.new wc [104, 101, 108, 108, 111] (by decide) _ _ rfl |>.more (by simp)) 0 k1 rfl rfl).mono ?_; rintro e w6 ⟨rfl, R6⟩
    go_wp2_with fail
    refine (cut_run R6.out ⟨#[102]⟩ (by decide) 6 1 k1 rfl rfl).mono ?_; rintro e w7 ⟨rfl, R7⟩
    go_wp2_with fail
    refine (cut_run R7.out ⟨#[102]⟩ (by decide) (-1) 1 k1 rfl rfl).mono ?_; rintro e w8 ⟨rfl, R8⟩
    go_wp2_with fail
    refine (cut_run R8.out ⟨#[102]⟩ (by decide) 4 0 k2 rfl rfl).mono ?_; rintro e w9 ⟨rfl, R9⟩
    go_wp2_with fail
    refine (swap_run R9.out ⟨#[102]⟩ ⟨#[103]⟩ (by decide) (by decide) 0 k3 rfl rfl).mono ?_; rintro e w10 ⟨rfl, R10⟩
    go_wp2_with fail
    refine (swap_run R10.out ⟨#[120]⟩ ⟨#[103]⟩ (by decide) (by decide) 4 k3 rfl rfl).mono ?_; rintro e w11 ⟨rfl, R11⟩
    go_wp2_with fail
    refine (drop_run R11.out ⟨#[102]⟩ (by decide) 4 k3 rfl rfl).mono ?_; rintro e w12 ⟨rfl, R12⟩
    go_wp2_with fail
    refine (append_run R12.out ⟨#[97]⟩ (by decide) none 0 0 [] rfl ⟨fun i hi => by simp at hi, fun hp => by simp at hp⟩ 0 k4 rfl rfl).mono ?_; rintro e w13 ⟨rfl, R13⟩
    go_wp2_with fail
    refine (names_runB R13.out.guest [⟨#[97]⟩, ⟨#[103]⟩] rfl (by decide)).mono ?_; rintro e w14 ⟨bn, fn, cn, on, rfl, R14, N14⟩
    go_wp2_with fail
    refine (append_runB (R14.out.alloc _) ⟨#[97]⟩ (by decide) _ 3 3 [120, 121, 122] rfl (Bytes.new w14 [120, 121, 122] (by decide) _ _ rfl |>.more (by simp)) 0 k5 rfl rfl).mono ?_; rintro e w15 ⟨rfl, R15⟩
    go_wp2_with fail
    refine (append_runB (R15.out.alloc _) ⟨#[103]⟩ (by decide) _ 1 1 [33] rfl (Bytes.new w15 [33] (by decide) _ _ rfl |>.more (by simp)) 0 k6 rfl rfl).mono ?_; rintro e w16 ⟨rfl, R16⟩
    go_wp2_with fail
    refine (crash_runB (R16.out.alloc _) _ [2, -1] 2 2 rfl (by decide) (by decide) (ints_lit2 w16 _ rfl 2 (-1) _) k7 rfl).mono ?_; rintro e w17 ⟨rfl, R17⟩
    go_wp2_with fail
    refine (names_runB R17.out [⟨#[97]⟩, ⟨#[103]⟩] rfl (by decide)).mono ?_; rintro e w18 ⟨bo, fo, co, oo, rfl, R18, N18⟩
    go_wp2_with fail
    refine (sure_runB R18.out ⟨#[97]⟩ (by decide) 2 rfl).mono ?_; rintro e w' ⟨rfl, rfl⟩
    go_wp2_with fail
    refine (sure_runB R18.out ⟨#[103]⟩ (by decide) 4 rfl).mono ?_; rintro e w' ⟨rfl, rfl⟩
    go_wp2_with fail
    refine (free_runB R18.out 4 rfl).mono ?_; rintro e w19 ⟨rfl, R19⟩
    go_wp2_with fail
    refine (on_runB R19.out k8 rfl).mono ?_; rintro e w20 ⟨rfl, R20⟩
    go_wp2_with fail
    refine (fuse_runB R20.out 2 (by decide) none [] 0 0 rfl (by decide) (fun h => by simp at h) (fun h => by simp at h) k9 rfl).mono ?_; rintro e w21 ⟨rfl, R21⟩
    go_wp2_with fail
    refine (append_runB (R21.out.alloc _) ⟨#[97]⟩ (by decide) _ 1 1 [49] rfl (Bytes.new w21 [49] (by decide) _ _ rfl |>.more (by simp)) 0 k10 rfl rfl).mono ?_; rintro e w22 ⟨rfl, R22⟩
    go_wp2_with fail
    refine (append_runB (R22.out.alloc _) ⟨#[97]⟩ (by decide) _ 1 1 [50] rfl (Bytes.new w22 [50] (by decide) _ _ rfl |>.more (by simp)) 11 k7 rfl rfl).mono ?_; rintro e w23 ⟨rfl, R23⟩
    go_wp2_with fail
    refine (off_runB R23.out true rfl).mono ?_; rintro e w' ⟨rfl, rfl⟩
    go_wp2_with fail
    refine (on_runB R23.out k8 rfl).mono ?_; rintro e w24 ⟨rfl, R24⟩
    go_wp2_with fail
    refine (read_runB R24.out ⟨#[97]⟩ (by decide) [120, 121] 0 rfl rfl (by decide)).mono ?_; rintro e w25 ⟨bv, fv, cv, ov, rfl, R25, V25⟩
    go_wp2_with fail
    refine (fuse_runB (R25.out.alloc _) 1 (by decide) _ [9] 1 1 rfl (by decide) (ints_lit w25 _ rfl 9 _) (fun _ a ha => by injection ha with ha; subst ha; have := R25.out.T_lt; show w25.heap.size ≠ T; omega) k11 rfl).mono ?_; rintro e w26 ⟨rfl, R26⟩
    go_wp2_with fail
    refine (fuse_runB R26.out 0 (by decide) none [] 0 0 rfl (by decide) (fun h => by simp at h) (fun h => by simp at h) k8 rfl).mono ?_; rintro e w27 ⟨rfl, R27⟩
    go_wp2_with fail
    refine (sync_runB R27.out ⟨#[97]⟩ (by decide) 0 k8 rfl rfl).mono ?_; rintro e w28 ⟨rfl, R28⟩
    go_wp2_with fail
    refine (swap_runB R28.out ⟨#[97]⟩ ⟨#[97]⟩ (by decide) (by decide) 0 k8 rfl rfl).mono ?_; rintro e w29 ⟨rfl, R29⟩
    go_wp2_with fail
    refine (texts_runB (R29.out.alloc _) _ _ [⟨#[97]⟩, ⟨#[103]⟩] _ _ _ _ rfl rfl (by decide) (N14.out _ ((R29.out.alloc _).block (g := (bn, on)) (by simp))) (strs_lit2 w29 _ _ (by decide) (by decide) _)).mono ?_; rintro e w30 ⟨rfl, R30⟩
    go_wp2_with fail
    refine (texts_runB (R30.out.alloc _) _ _ [⟨#[97]⟩, ⟨#[103]⟩] _ _ _ _ rfl rfl (by decide) (N18.out _ ((R30.out.alloc _).block (g := (bo, oo)) (by simp))) (strs_lit2 w30 _ _ (by decide) (by decide) _)).mono ?_; rintro e w31 ⟨rfl, R31⟩
    have cvV : (convert 28 9 (.slice (some ⟨bv, fv, none⟩) 2 cv)).run Try.prog w31 = .ok (.string ⟨#[120, 121]⟩) w31 := conv_str (V25.out _ (R31.out.block (g := (bv, ov)) (by simp))) cv
    go_wp2
    go_ret
    exact ⟨rfl, R31.out.run.below⟩
end Go.Proofs.Ytdfehdaeeigofaa
