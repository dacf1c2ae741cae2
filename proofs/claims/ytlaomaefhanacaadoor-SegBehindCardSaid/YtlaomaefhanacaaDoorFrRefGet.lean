/-
  The reference's GetRec at every argument: what package frame's Get tells.
-/
import Derived.Test.YtlaomaefhanacaaDoorFrRefVal
namespace Go.Proofs.YtlaomaefhanacaaDoor
open Go.RowKit
/-- What GetRec's reading calls return at one argument, in every world that holds it. -/
structure Gr (w : World) (A : Option Addr) (cap l : Nat) (S T : Int) (f p : List Int) : Prop where
  n0 : ∀ W, Below w.heap.size w W → Calls Tryd.prog 51 #[.slice A 4 cap] W fun e w' => e = .returned (.int .u64 (l : Int)) ∧ W = w'
  n12 : ∀ W, Below w.heap.size w W → Calls Tryd.prog 51 #[.slice (tailA A cap 12) 4 (cap - 12)] W fun e w' => e = .returned (.int .u64 S) ∧ W = w'
  n4 : ∀ W, Below w.heap.size w W → Calls Tryd.prog 51 #[.slice (tailA A cap 4) 8 (cap - 4)] W fun e w' => e = .returned (.int .u64 T) ∧ W = w'
  bf : ∀ W, Below w.heap.size w W → Bytes W w.heap.size A f
  bp : ∀ W, Below w.heap.size w W → Bytes W w.heap.size (tailA A cap 16) p
  lf : f.length = 12
  lp : p.length = l
def GetRPost (w : World) (at_ : Int) (ps : List Int) (n : Nat) (er : Int) (e : Ending) (w' : World) : Prop :=
  e = .returned (.tuple #[.agg #[.int .u64 at_, .string (strOfNums ps)], .int .i64 (n : Int), .int .i64 er]) ∧ Below w.heap.size w w'
theorem str_nil : strOfNums [] = ⟨#[]⟩ := rfl
theorem GetRPost.bad (w w' : World) (er : Int) (hg : Below w.heap.size w w') : GetRPost w 0 [] 0 er (.returned (.tuple #[.agg #[.int .u64 0, .string ⟨#[]⟩], .int .i64 0, .int .i64 er])) w' := ⟨rfl, hg⟩
theorem bel2 {w w1 : World} {g : Nat} {B : Nat} {x y : Value} (h : Below B w w1) (hg : B ≤ g) : Below B w ((w1.setCell ⟨g, 0, none⟩ x).setCell ⟨g, 1, none⟩ y) :=
  (h.setCell (p := ⟨g, 0, none⟩) hg _).setCell (p := ⟨g, 1, none⟩) hg _
set_option maxHeartbeats 2000000 in
theorem rget_short (A : Option Addr) (n cap : Nat) (hn : n < 4) (w : World) : Calls Tryd.prog 31 #[.slice A n cap] w (GetRPost w 0 [] 0 3) := by
  have hn' : (n : Int) < 4 := by omega
  go_enter Tryd.func31, Tryd.ntmps31
  go_wp2
  exact bodyPost_ret (v := .tuple #[.agg #[.int .u64 0, .string ⟨#[]⟩], .int .i64 0, .int .i64 3]) (by simp [results, Tryd.results31, go_sem]) rfl (GetRPost.bad _ _ _ ((Below.refl _ _).alloc (Nat.le_refl _) _))
set_option maxHeartbeats 2000000 in
theorem rget_large (A : Option Addr) (n cap l : Nat) (hn : 4 ≤ n) (hc : n ≤ cap) (h1 : 1024 < l) (w : World)
    (n0 : ∀ W, Below w.heap.size w W → Calls Tryd.prog 51 #[.slice A 4 cap] W fun e w' => e = .returned (.int .u64 (l : Int)) ∧ W = w') : Calls Tryd.prog 31 #[.slice A n cap] w (GetRPost w 0 [] 0 14) := by
  have hn' : 4 ≤ (n : Int) := by omega
  have h1' : 1024 < (l : Int) := by omega
  have N0 := Lib.hid n0
  have s4 : ∀ W, (Instr.slice 32 (.slice A n cap) none (some (.int .i64 4)) none).run Tryd.prog W = .ok (.slice A 4 cap) W := fun W => slice_to A n cap 4 (by omega) .i64 W
  clear n0
  go_enter Tryd.func31, Tryd.ntmps31
  go_wp2_with fail
  refine (N0.out _ ((Below.refl _ _).alloc (Nat.le_refl _) _)).mono ?_; rintro e w' ⟨rfl, rfl⟩
  go_wp2
  exact bodyPost_ret (v := .tuple #[.agg #[.int .u64 0, .string ⟨#[]⟩], .int .i64 0, .int .i64 14]) (by simp [results, Tryd.results31, go_sem]) rfl (GetRPost.bad _ _ _ ((Below.refl _ _).alloc (Nat.le_refl _) _))
set_option maxHeartbeats 2000000 in
theorem rget_more (A : Option Addr) (n cap l : Nat) (hn : 4 ≤ n) (hc : n ≤ cap) (h1 : l ≤ 1024) (h2 : n < 16 + l) (w : World)
    (n0 : ∀ W, Below w.heap.size w W → Calls Tryd.prog 51 #[.slice A 4 cap] W fun e w' => e = .returned (.int .u64 (l : Int)) ∧ W = w') : Calls Tryd.prog 31 #[.slice A n cap] w (GetRPost w 0 [] 0 3) := by
  have hn' : 4 ≤ (n : Int) := by omega
  have h1' : (l : Int) ≤ 1024 := by omega
  have h2' : (n : Int) < 16 + (l : Int) := by omega
  have N0 := Lib.hid n0
  have s4 : ∀ W, (Instr.slice 32 (.slice A n cap) none (some (.int .i64 4)) none).run Tryd.prog W = .ok (.slice A 4 cap) W := fun W => slice_to A n cap 4 (by omega) .i64 W
  clear n0
  by_cases h16 : n < 16
  · have h16' : (n : Int) < 16 := by omega
    go_enter Tryd.func31, Tryd.ntmps31
    go_wp2_with fail
    refine (N0.out _ ((Below.refl _ _).alloc (Nat.le_refl _) _)).mono ?_; rintro e w' ⟨rfl, rfl⟩
    go_wp2
    exact bodyPost_ret (v := .tuple #[.agg #[.int .u64 0, .string ⟨#[]⟩], .int .i64 0, .int .i64 3]) (by simp [results, Tryd.results31, go_sem]) rfl (GetRPost.bad _ _ _ ((Below.refl _ _).alloc (Nat.le_refl _) _))
  · have h16' : 16 ≤ (n : Int) := by omega
    go_enter Tryd.func31, Tryd.ntmps31
    go_wp2_with fail
    refine (N0.out _ ((Below.refl _ _).alloc (Nat.le_refl _) _)).mono ?_; rintro e w' ⟨rfl, rfl⟩
    go_wp2_with fail
    refine (N0.out _ ((Below.refl _ _).alloc (Nat.le_refl _) _)).mono ?_; rintro e w' ⟨rfl, rfl⟩
    go_wp2
    exact bodyPost_ret (v := .tuple #[.agg #[.int .u64 0, .string ⟨#[]⟩], .int .i64 0, .int .i64 3]) (by simp [results, Tryd.results31, go_sem]) rfl (GetRPost.bad _ _ _ ((Below.refl _ _).alloc (Nat.le_refl _) _))
set_option maxHeartbeats 8000000 in
set_option maxRecDepth 20000 in
theorem rget_form (A : Option Addr) (n cap l : Nat) (S C T : Int) (f p : List Int) (hc : n ≤ cap) (h1 : l ≤ 1024) (h2 : 16 + l ≤ n) (w : World) (G : Gr w A cap l S T f p) (hC : Su.ofV (f ++ p) = C) (hs : (C != S) = true) (c0 : 0 ≤ C) (c1 : C < 4294967296) :
    Calls Tryd.prog 31 #[.slice A n cap] w (GetRPost w 0 [] 0 2) := by
  have hn' : 4 ≤ (n : Int) := by omega
  have h1' : (l : Int) ≤ 1024 := by omega
  have h2' : 16 + (l : Int) ≤ (n : Int) := by omega
  have s4 : ∀ W, (Instr.slice 32 (.slice A n cap) none (some (.int .i64 4)) none).run Tryd.prog W = .ok (.slice A 4 cap) W := fun W => slice_to A n cap 4 (by omega) .i64 W
  have s12 : ∀ W, (Instr.slice 32 (.slice A n cap) none (some (.int .i64 12)) none).run Tryd.prog W = .ok (.slice A 12 cap) W := fun W => slice_to A n cap 12 (by omega) .i64 W
  have s12' : ∀ W, (Instr.slice 32 (.slice A n cap) (some (.int .i64 12)) (some (.int .i64 16)) none).run Tryd.prog W = .ok (.slice (tailA A cap 12) 4 (cap - 12)) W := fun W => slice_mid A n cap 12 16 (by omega) (by omega) .i64 .i64 W
  have s16 := mid16 A n cap l h2 hc
  have s4' : ∀ W, (Instr.slice 32 (.slice A n cap) (some (.int .i64 4)) (some (.int .i64 12)) none).run Tryd.prog W = .ok (.slice (tailA A cap 4) 8 (cap - 4)) W := fun W => slice_mid A n cap 4 12 (by omega) (by omega) .i64 .i64 W
  have HC := Lib.hid hC
  clear hC
  have tw : IntKind.u64.wrap C = C := IntWalk.u64_in _ (by omega)
  have TW := Lib.hid tw
  clear tw
  have X1 : Hid ((w.alloc (.cells #[.int .u64 0, .string ⟨#[]⟩] 71)).heap[w.heap.size]? = some (.cells #[.int .u64 0, .string ⟨#[]⟩] 71 (0, 0))) := heap_alloc_new w _
  have B1 : Hid (Below w.heap.size w (w.alloc (.cells #[.int .u64 0, .string ⟨#[]⟩] 71))) := (Below.refl _ _).alloc (Nat.le_refl _) _
  go_enter Tryd.func31, Tryd.ntmps31
  go_wp2_with fail
  refine (G.n0 _ B1.out).mono ?_; rintro e w' ⟨rfl, rfl⟩
  go_wp2_with fail
  refine (G.n0 _ B1.out).mono ?_; rintro e w' ⟨rfl, rfl⟩
  go_wp2_with fail
  refine (G.n0 _ B1.out).mono ?_; rintro e w' ⟨rfl, rfl⟩
  go_wp2_with fail
  have hs1 := B1.out.size
  generalize w.alloc (.cells #[.int .u64 0, .string ⟨#[]⟩] 71) = w1 at *
  have tw := TW.out
  have B1' : Hid (Below w.heap.size w (w1.alloc (.cells #[] 5)).drew) := (B1.out.alloc hs1 _).drew
  have LF := Lib.hid G.lf
  have LP := Lib.hid G.lp
  go_region_held3 (fun w' => True) ((first | go_keep | trivial))
    (first
      | (refine step_app (by rfl) _ _ (by rfl) (by rfl) rfl (OwnB.start w1 w1.heap.size (Nat.le_refl _)).drew (by simp) (by rfl) LF.out.symm (G.bf _ B1'.out) (by rw [LF.out]; decide) ?_; intro A2 c2 w2 o2 d2; rw [List.nil_append] at o2; have O2 := Lib.hid o2; have B2 := Lib.hid (B1'.out.trans (d2.below.mono hs1)); have G2 := Lib.hid (((Grew.refl w1.heap.size w1).alloc (Nat.le_refl _) (.cells #[] 5)).drew.trans d2); clear o2 d2)
      | (refine step_app (by rfl) _ _ (by rfl) (by rfl) (by simp) O2.out G2.out.below.size (by rfl) LP.out.symm (G.bp _ B2.out) (by rw [LF.out, LP.out]; omega) ?_; intro A3 c3 w3 o3 d3; have O3 := Lib.hid o3; have B3 := Lib.hid (B2.out.trans (d3.below.mono hs1)); have G3 := Lib.hid (G2.out.trans d3); clear o3 d3)
      | (go_at_call 52; refine (refSum_at A3 (f ++ p) _ c3 C (by simp) HC.out (by rw [List.length_append, LF.out, LP.out]; omega) _ O3.out.bytes).mono ?_; rintro e w4 ⟨rfl, b4⟩; have B4 := Lib.hid (below_on (A := w) (B := w3) B3.out b4); have G4 := Lib.hid (G3.out.below.trans (b4.mono G3.out.below.size)); clear b4)
      | (go_at_call 51; refine (G.n12 _ B4.out).mono ?_; rintro e w' ⟨rfl, rfl⟩))
  clear tw
  have X4 : Hid (w4.heap[w.heap.size]? = some (.cells #[.int .u64 0, .string ⟨#[]⟩] 71 (0, 0))) := (G4.out.block _ (lt_of_block X1.out)).trans X1.out
  clear O2 O3 G2 G3 B2 B3 G4 B1'
  obtain ⟨x0, x1⟩ := obj2 X4.out
  obtain ⟨f0, f1⟩ := obj2f X4.out
  go_wp2
  have X5 : Hid ((w4.setCell ⟨w.heap.size, 0, none⟩ (.int .u64 0)).heap[w.heap.size]? = some (.cells #[.int .u64 0, .string ⟨#[]⟩] 71 (0, 0))) := Lib.hid (heap_setCell_same w4 w.heap.size 0 _ _ _ X4.out)
  have X6 : Hid (((w4.setCell ⟨w.heap.size, 0, none⟩ (.int .u64 0)).setCell ⟨w.heap.size, 1, none⟩ (.string ⟨#[]⟩)).heap[w.heap.size]? = some (.cells #[.int .u64 0, .string ⟨#[]⟩] 71 (0, 0))) := Lib.hid (heap_setCell_same _ w.heap.size 1 _ _ _ X5.out)
  obtain ⟨q0, q1⟩ := obj2 X6.out
  exact bodyPost_ret (v := .tuple #[.agg #[.int .u64 0, .string ⟨#[]⟩], .int .i64 0, .int .i64 2]) (by simp [results, Tryd.results31, go_sem, q0, q1]) rfl (GetRPost.bad _ _ _ (bel2 B4.out (Nat.le_refl _)))
set_option maxHeartbeats 8000000 in
set_option maxRecDepth 20000 in
theorem rget_good (A : Option Addr) (n cap l : Nat) (C T : Int) (f p : List Int) (hc : n ≤ cap) (h1 : l ≤ 1024) (h2 : 16 + l ≤ n) (w : World) (G : Gr w A cap l C T f p) (hC : Su.ofV (f ++ p) = C) (c0 : 0 ≤ C) (c1 : C < 4294967296) :
    Calls Tryd.prog 31 #[.slice A n cap] w (GetRPost w T p (16 + l) 0) := by
  have hn' : 4 ≤ (n : Int) := by omega
  have h1' : (l : Int) ≤ 1024 := by omega
  have h2' : 16 + (l : Int) ≤ (n : Int) := by omega
  have s4 : ∀ W, (Instr.slice 32 (.slice A n cap) none (some (.int .i64 4)) none).run Tryd.prog W = .ok (.slice A 4 cap) W := fun W => slice_to A n cap 4 (by omega) .i64 W
  have s12 : ∀ W, (Instr.slice 32 (.slice A n cap) none (some (.int .i64 12)) none).run Tryd.prog W = .ok (.slice A 12 cap) W := fun W => slice_to A n cap 12 (by omega) .i64 W
  have s12' : ∀ W, (Instr.slice 32 (.slice A n cap) (some (.int .i64 12)) (some (.int .i64 16)) none).run Tryd.prog W = .ok (.slice (tailA A cap 12) 4 (cap - 12)) W := fun W => slice_mid A n cap 12 16 (by omega) (by omega) .i64 .i64 W
  have s16 := mid16 A n cap l h2 hc
  have s4' : ∀ W, (Instr.slice 32 (.slice A n cap) (some (.int .i64 4)) (some (.int .i64 12)) none).run Tryd.prog W = .ok (.slice (tailA A cap 4) 8 (cap - 4)) W := fun W => slice_mid A n cap 4 12 (by omega) (by omega) .i64 .i64 W
  have HC := Lib.hid hC
  clear hC
  have tw : IntKind.u64.wrap C = C := IntWalk.u64_in _ (by omega)
  have TW := Lib.hid tw
  clear tw
  have X1 : Hid ((w.alloc (.cells #[.int .u64 0, .string ⟨#[]⟩] 71)).heap[w.heap.size]? = some (.cells #[.int .u64 0, .string ⟨#[]⟩] 71 (0, 0))) := heap_alloc_new w _
  have B1 : Hid (Below w.heap.size w (w.alloc (.cells #[.int .u64 0, .string ⟨#[]⟩] 71))) := (Below.refl _ _).alloc (Nat.le_refl _) _
  go_enter Tryd.func31, Tryd.ntmps31
  go_wp2_with fail
  refine (G.n0 _ B1.out).mono ?_; rintro e w' ⟨rfl, rfl⟩
  go_wp2_with fail
  refine (G.n0 _ B1.out).mono ?_; rintro e w' ⟨rfl, rfl⟩
  go_wp2_with fail
  refine (G.n0 _ B1.out).mono ?_; rintro e w' ⟨rfl, rfl⟩
  go_wp2_with fail
  have hs1 := B1.out.size
  generalize w.alloc (.cells #[.int .u64 0, .string ⟨#[]⟩] 71) = w1 at *
  have tw := TW.out
  have B1' : Hid (Below w.heap.size w (w1.alloc (.cells #[] 5)).drew) := (B1.out.alloc hs1 _).drew
  have LF := Lib.hid G.lf
  have LP := Lib.hid G.lp
  go_region_held3 (fun w' => True) ((first | go_keep | trivial))
    (first
      | (refine step_app (by rfl) _ _ (by rfl) (by rfl) rfl (OwnB.start w1 w1.heap.size (Nat.le_refl _)).drew (by simp) (by rfl) LF.out.symm (G.bf _ B1'.out) (by rw [LF.out]; decide) ?_; intro A2 c2 w2 o2 d2; rw [List.nil_append] at o2; have O2 := Lib.hid o2; have B2 := Lib.hid (B1'.out.trans (d2.below.mono hs1)); have G2 := Lib.hid (((Grew.refl w1.heap.size w1).alloc (Nat.le_refl _) (.cells #[] 5)).drew.trans d2); clear o2 d2)
      | (refine step_app (by rfl) _ _ (by rfl) (by rfl) (by simp) O2.out G2.out.below.size (by rfl) LP.out.symm (G.bp _ B2.out) (by rw [LF.out, LP.out]; omega) ?_; intro A3 c3 w3 o3 d3; have O3 := Lib.hid o3; have B3 := Lib.hid (B2.out.trans (d3.below.mono hs1)); have G3 := Lib.hid (G2.out.trans d3); clear o3 d3)
      | (go_at_call 52; refine (refSum_at A3 (f ++ p) _ c3 C (by simp) HC.out (by rw [List.length_append, LF.out, LP.out]; omega) _ O3.out.bytes).mono ?_; rintro e w4 ⟨rfl, b4⟩; have B4 := Lib.hid (below_on (A := w) (B := w3) B3.out b4); have G4 := Lib.hid (G3.out.below.trans (b4.mono G3.out.below.size)); clear b4)
      | (go_at_call 51; refine (G.n12 _ B4.out).mono ?_; rintro e w' ⟨rfl, rfl⟩))
  clear tw
  have X4 : Hid (w4.heap[w.heap.size]? = some (.cells #[.int .u64 0, .string ⟨#[]⟩] 71 (0, 0))) := (G4.out.block _ (lt_of_block X1.out)).trans X1.out
  clear O2 O3 G2 G3 B2 B3 G4 B1'
  obtain ⟨x0, x1⟩ := obj2 X4.out
  obtain ⟨f0, f1⟩ := obj2f X4.out
  have CV := Lib.hid (fun W (h : Below w.heap.size w W) => conv_str (G.bp W h) (cap - 16))
  rw [LP.out] at CV
  have B4' : Hid (Below w.heap.size w w4.drew) := B4.out.drew
  generalize hst : strOfNums p = st at *
  have HST := Lib.hid hst
  clear hst
  have cv4 := CV.out _ B4'.out
  have E16 : Hid (16 + (l : Int) = ((16 + l : Nat) : Int)) := by show _ = _; omega
  go_wp2_with fail
  have tl : IntKind.i64.wrap (16 + (l : Int)) = 16 + (l : Int) := IntWalk.i64_in _ (by omega)
  go_region_held3 (fun w' => (convert 32 9 (.slice (tailA A cap 16) l (cap - 16))).run Tryd.prog w' = .ok (.string st) w') ((first | go_keep | exact cv4 | exact CV.out _ (B4'.out.setCell (p := ⟨w.heap.size, 0, none⟩) (Nat.le_refl _) _) | exact CV.out _ (bel2 B4'.out (Nat.le_refl _))))
    (first
      | (go_at_call 51; refine (G.n4 _ B4'.out).mono ?_; rintro e w' ⟨rfl, rfl⟩))
  clear tl cv4
  go_wp2
  have X5 : Hid ((w4.setCell ⟨w.heap.size, 0, none⟩ (.int .u64 T)).heap[w.heap.size]? = some (.cells #[.int .u64 T, .string ⟨#[]⟩] 71 (0, 0))) := Lib.hid (heap_setCell_same w4 w.heap.size 0 _ _ _ X4.out)
  have X6 : Hid (((w4.setCell ⟨w.heap.size, 0, none⟩ (.int .u64 T)).setCell ⟨w.heap.size, 1, none⟩ (.string st)).heap[w.heap.size]? = some (.cells #[.int .u64 T, .string st] 71 (0, 0))) := Lib.hid (heap_setCell_same _ w.heap.size 1 _ _ _ X5.out)
  obtain ⟨q0, q1⟩ := obj2 X6.out
  exact bodyPost_ret (v := .tuple #[.agg #[.int .u64 T, .string st], .int .i64 (16 + (l : Int)), .int .i64 0]) (by simp [results, Tryd.results31, go_sem, q0, q1]) rfl
    ⟨by rw [HST.out, E16.out], (bel2 B4.out (Nat.le_refl _)).drew⟩
theorem rget_any (A : Option Addr) (zs : List Int) (cap : Nat) (hl : zs.length ≤ 9223372036854775807) (hc : zs.length ≤ cap) (w : World) (hb : Bytes w w.heap.size A zs) :
    Calls Tryd.prog 31 #[.slice A zs.length cap] w (GetRPost w (Fr.getA zs) (Fr.getP zs) (Fr.getN zs) (Fr.errG zs)) := by
  have hby := hb.byte
  by_cases h4 : zs.length < 4
  · have e : Fr.errG zs = 3 := by unfold Fr.errG; rw [if_pos h4]
    rw [Fr.getA_bad (by rw [e]; decide), Fr.getP_bad (by rw [e]; decide), Fr.getN_bad (by rw [e]; decide), e]
    exact rget_short A _ cap h4 w
  have hr := Fr.lenG_range hby (by omega)
  obtain ⟨l, hl0⟩ := Int.eq_ofNat_of_zero_le hr.1
  have n0 : ∀ W, Below w.heap.size w W → Calls Tryd.prog 51 #[.slice A 4 cap] W fun e w' => e = .returned (.int .u64 (l : Int)) ∧ W = w' := fun W hW => by
    have h := value_any w.heap.size A (zs.take 4) cap (by rw [List.length_take]; omega) W ((hb.below hW).head 4)
    rw [List.length_take, Nat.min_eq_left (by omega)] at h
    have e : Fr.valB (zs.take 4) = (l : Int) := hl0
    rw [e] at h
    exact h
  by_cases h1 : 1024 < l
  · have e : Fr.errG zs = 14 := by unfold Fr.errG; rw [if_neg h4, if_pos (by omega)]
    rw [Fr.getA_bad (by rw [e]; decide), Fr.getP_bad (by rw [e]; decide), Fr.getN_bad (by rw [e]; decide), e]
    exact rget_large A _ cap l (by omega) hc h1 w n0
  by_cases h2 : zs.length < 16 + l
  · have e : Fr.errG zs = 3 := by unfold Fr.errG; rw [if_neg h4, if_neg (by omega), if_pos (by omega)]
    rw [Fr.getA_bad (by rw [e]; decide), Fr.getP_bad (by rw [e]; decide), Fr.getN_bad (by rw [e]; decide), e]
    exact rget_more A _ cap l (by omega) hc (by omega) h2 w n0
  have ep : Fr.payG zs = (zs.drop 16).take l := by unfold Fr.payG; rw [hl0]; rfl
  have lp : (Fr.payG zs).length = l := by rw [ep, List.length_take, List.length_drop]; omega
  have hpb : ∀ W, Below w.heap.size w W → Bytes W w.heap.size (tailA A cap 16) (Fr.payG zs) := fun W hW => by rw [ep]; exact ((hb.below hW).tail 16 cap hc).head l
  have n12 : ∀ W, Below w.heap.size w W → Calls Tryd.prog 51 #[.slice (tailA A cap 12) 4 (cap - 12)] W fun e w' => e = .returned (.int .u64 (Fr.sumG zs)) ∧ W = w' := fun W hW => by
    have h := value_any w.heap.size (tailA A cap 12) ((zs.drop 12).take 4) (cap - 12) (by rw [List.length_take]; omega) W (((hb.below hW).tail 12 cap hc).head 4)
    rw [List.length_take, List.length_drop, Nat.min_eq_left (by omega)] at h
    exact h
  have n4 : ∀ W, Below w.heap.size w W → Calls Tryd.prog 51 #[.slice (tailA A cap 4) 8 (cap - 4)] W fun e w' => e = .returned (.int .u64 (Fr.atG zs)) ∧ W = w' := fun W hW => by
    have h := value_any w.heap.size (tailA A cap 4) ((zs.drop 4).take 8) (cap - 4) (by rw [List.length_take]; omega) W (((hb.below hW).tail 4 cap hc).head 8)
    rw [List.length_take, List.length_drop, Nat.min_eq_left (by omega)] at h
    exact h
  have G : Gr w A cap l (Fr.sumG zs) (Fr.atG zs) (zs.take 12) (Fr.payG zs) := ⟨n0, n12, n4, fun W h => (hb.below h).head 12, hpb, by rw [List.length_take]; omega, lp⟩
  have hcr := Fr.ckV_range (zs.take 12) (Fr.payG zs)
  by_cases hs : Fr.ckV (zs.take 12) (Fr.payG zs) = Fr.sumG zs
  · have e : Fr.errG zs = 0 := by unfold Fr.errG; rw [if_neg h4, if_neg (by omega), if_neg (by omega), if_pos hs]
    have es : Fr.sizeG zs = 16 + l := by unfold Fr.sizeG; rw [hl0]; rfl
    rw [Fr.getA_ok e, Fr.getP_ok e, Fr.getN_ok e, e, es]
    rw [← hs] at G
    exact rget_good A _ cap l _ _ _ _ hc (by omega) (by omega) w G rfl hcr.1 hcr.2
  · have e : Fr.errG zs = 2 := by unfold Fr.errG; rw [if_neg h4, if_neg (by omega), if_neg (by omega), if_neg hs]
    rw [Fr.getA_bad (by rw [e]; decide), Fr.getP_bad (by rw [e]; decide), Fr.getN_bad (by rw [e]; decide), e]
    exact rget_form A _ cap l _ (Fr.ckV (zs.take 12) (Fr.payG zs)) _ _ _ hc (by omega) (by omega) w G rfl (by simp; exact hs) hcr.1 hcr.2
end Go.Proofs.YtlaomaefhanacaaDoor
