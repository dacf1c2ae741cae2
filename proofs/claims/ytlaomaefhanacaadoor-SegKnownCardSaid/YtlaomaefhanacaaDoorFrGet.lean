/-
  frame.Get at every argument: the first record and the length of its encoding, or the error that comes first.
-/
import Derived.Test.YtlaomaefhanacaaDoorFrPut
namespace Go.Proofs.YtlaomaefhanacaaDoor
open Go.RowKit

/-- What Get's calls return at one argument of n bytes at address A, in every world that holds them. -/
structure Gt (w : World) (A : Option Addr) (cap l : Nat) (S C T : Int) (ps : List Int) : Prop where
  n0 : ∀ W, Below w.heap.size w W → Calls Tryd.prog 47 #[.slice A 4 cap] W fun e w' => e = .returned (.int .u64 (l : Int)) ∧ W = w'
  n12 : ∀ W, Below w.heap.size w W → Calls Tryd.prog 47 #[.slice (tailA A cap 12) 4 (cap - 12)] W fun e w' => e = .returned (.int .u64 S) ∧ W = w'
  n4 : ∀ W, Below w.heap.size w W → Calls Tryd.prog 47 #[.slice (tailA A cap 4) 8 (cap - 4)] W fun e w' => e = .returned (.int .u64 T) ∧ W = w'
  ck : ∀ W, Below w.heap.size w W → Calls Tryd.prog 36 #[.slice A 12 cap, .slice (tailA A cap 16) l (cap - 16)] W fun e w' => e = .returned (.int .u64 C) ∧ W = w'
  cl : ∀ W, Below w.heap.size w W → Calls Tryd.prog 48 #[.slice (tailA A cap 16) l (cap - 16)] W (AppPost W W.heap.size ps)
def GetPost (w : World) (at_ : Int) (ps : List Int) (n : Nat) (er : Int) (e : Ending) (w' : World) : Prop :=
  ∃ zs A cap, Hid (zs = ps) ∧ e = .returned (.tuple #[.agg #[.int .u64 at_, .slice A zs.length cap], .int .i64 (n : Int), .int .i64 er]) ∧ OwnB w' w.heap.size A cap zs ∧ Below w.heap.size w w'
theorem GetPost.bad (w w' : World) (er : Int) (hg : Below w.heap.size w w') : GetPost w 0 [] 0 er (.returned (.tuple #[.agg #[.int .u64 0, .slice none 0 0], .int .i64 0, .int .i64 er])) w' :=
  ⟨[], none, 0, Lib.hid rfl, rfl, OwnB.none_ _ _, hg⟩
theorem GetPost.good (w w' : World) (at_ : Int) (zs ps : List Int) (n : Nat) (m : Int) (A : Option Addr) (cap : Nat) (hz : zs = ps) (hm : m = (n : Int)) (ho : OwnB w' w.heap.size A cap zs) (hg : Below w.heap.size w w') :
    GetPost w at_ ps n 0 (.returned (.tuple #[.agg #[.int .u64 at_, .slice A zs.length cap], .int .i64 m, .int .i64 0])) w' := by
  subst hm; exact ⟨zs, A, cap, Lib.hid hz, rfl, ho, hg⟩
theorem get_short (A : Option Addr) (n cap : Nat) (hn : n < 4) (w : World) : Calls Tryd.prog 27 #[.slice A n cap] w (GetPost w 0 [] 0 3) := by
  have hn' : (n : Int) < 4 := by omega
  go_enter Tryd.func27, Tryd.ntmps27
  go_wp2
  exact bodyPost_ret (v := .tuple #[.agg #[.int .u64 0, .slice none 0 0], .int .i64 0, .int .i64 3]) (by simp [results, Tryd.results27, go_sem]) rfl (GetPost.bad _ _ _ (by repeat' (first | exact Below.refl _ _ | refine Below.setCell ?_ (Nat.le_refl _) _ | refine Below.alloc ?_ (Nat.le_refl _) _)))
set_option maxHeartbeats 2000000 in
theorem get_large (A : Option Addr) (n cap l : Nat) (hn : 4 ≤ n) (hc : n ≤ cap) (h1 : 1024 < l) (w : World)
    (n0 : ∀ W, Below w.heap.size w W → Calls Tryd.prog 47 #[.slice A 4 cap] W fun e w' => e = .returned (.int .u64 (l : Int)) ∧ W = w') : Calls Tryd.prog 27 #[.slice A n cap] w (GetPost w 0 [] 0 14) := by
  have hn' : 4 ≤ (n : Int) := by omega
  have h1' : 1024 < (l : Int) := by omega
  have N0 := Lib.hid n0
  have s4 : ∀ W, (Instr.slice 32 (.slice A n cap) none (some (.int .i64 4)) none).run Tryd.prog W = .ok (.slice A 4 cap) W := fun W => slice_to A n cap 4 (by omega) .i64 W
  clear n0
  go_enter Tryd.func27, Tryd.ntmps27
  go_wp2_with fail
  refine (N0.out _ ((Below.refl _ _).alloc (Nat.le_refl _) _)).mono ?_; rintro e w' ⟨rfl, rfl⟩
  go_wp2
  exact bodyPost_ret (v := .tuple #[.agg #[.int .u64 0, .slice none 0 0], .int .i64 0, .int .i64 14]) (by simp [results, Tryd.results27, go_sem]) rfl (GetPost.bad _ _ _ (by repeat' (first | exact Below.refl _ _ | refine Below.setCell ?_ (Nat.le_refl _) _ | refine Below.alloc ?_ (Nat.le_refl _) _)))
set_option maxHeartbeats 2000000 in
theorem get_more (A : Option Addr) (n cap l : Nat) (hn : 4 ≤ n) (hc : n ≤ cap) (h1 : l ≤ 1024) (h2 : n < 16 + l) (w : World)
    (n0 : ∀ W, Below w.heap.size w W → Calls Tryd.prog 47 #[.slice A 4 cap] W fun e w' => e = .returned (.int .u64 (l : Int)) ∧ W = w') : Calls Tryd.prog 27 #[.slice A n cap] w (GetPost w 0 [] 0 3) := by
  have hn' : 4 ≤ (n : Int) := by omega
  have h1' : (l : Int) ≤ 1024 := by omega
  have h2' : (n : Int) < 16 + (l : Int) := by omega
  have N0 := Lib.hid n0
  have s4 : ∀ W, (Instr.slice 32 (.slice A n cap) none (some (.int .i64 4)) none).run Tryd.prog W = .ok (.slice A 4 cap) W := fun W => slice_to A n cap 4 (by omega) .i64 W
  clear n0
  go_enter Tryd.func27, Tryd.ntmps27
  go_wp2_with fail
  refine (N0.out _ ((Below.refl _ _).alloc (Nat.le_refl _) _)).mono ?_; rintro e w' ⟨rfl, rfl⟩
  go_wp2
  exact bodyPost_ret (v := .tuple #[.agg #[.int .u64 0, .slice none 0 0], .int .i64 0, .int .i64 3]) (by simp [results, Tryd.results27, go_sem]) rfl (GetPost.bad _ _ _ (by repeat' (first | exact Below.refl _ _ | refine Below.setCell ?_ (Nat.le_refl _) _ | refine Below.alloc ?_ (Nat.le_refl _) _)))
theorem mid16 (A : Option Addr) (n cap l : Nat) (h1 : 16 + l ≤ n) (hc : n ≤ cap) (W : World) : (Instr.slice 32 (.slice A n cap) (some (.int .i64 16)) (some (.int .i64 (16 + (l : Int)))) none).run Tryd.prog W = .ok (.slice (tailA A cap 16) l (cap - 16)) W := by
  have h := slice_mid A n cap 16 (16 + l) (by omega) (by omega) .i64 .i64 W
  rw [show 16 + l - 16 = l by omega, show ((16 + l : Nat) : Int) = 16 + (l : Int) by omega] at h
  exact h
set_option maxHeartbeats 4000000 in
theorem get_form (A : Option Addr) (n cap l : Nat) (S C T : Int) (ps : List Int) (hc : n ≤ cap) (h1 : l ≤ 1024) (h2 : 16 + l ≤ n) (hs : (S != C) = true) (w : World) (G : Gt w A cap l S C T ps) :
    Calls Tryd.prog 27 #[.slice A n cap] w (GetPost w 0 [] 0 2) := by
  have hn' : 4 ≤ (n : Int) := by omega
  have h1' : (l : Int) ≤ 1024 := by omega
  have h2' : 16 + (l : Int) ≤ (n : Int) := by omega
  have s4 : ∀ W, (Instr.slice 32 (.slice A n cap) none (some (.int .i64 4)) none).run Tryd.prog W = .ok (.slice A 4 cap) W := fun W => slice_to A n cap 4 (by omega) .i64 W
  have s12 : ∀ W, (Instr.slice 32 (.slice A n cap) none (some (.int .i64 12)) none).run Tryd.prog W = .ok (.slice A 12 cap) W := fun W => slice_to A n cap 12 (by omega) .i64 W
  have s12' : ∀ W, (Instr.slice 32 (.slice A n cap) (some (.int .i64 12)) (some (.int .i64 16)) none).run Tryd.prog W = .ok (.slice (tailA A cap 12) 4 (cap - 12)) W := fun W => slice_mid A n cap 12 16 (by omega) (by omega) .i64 .i64 W
  have s16 := mid16 A n cap l h2 hc
  have B1 : Hid (Below w.heap.size w (w.alloc (.cells #[.int .u64 0, .slice none 0 0] 34))) := (Below.refl _ _).alloc (Nat.le_refl _) _
  go_enter Tryd.func27, Tryd.ntmps27
  go_wp2_with fail
  refine (G.n0 _ B1.out).mono ?_; rintro e w' ⟨rfl, rfl⟩
  go_wp2_with fail
  go_quiet ((first | (go_at_call 47; exact stillB B1.out G.n12) | (go_at_call 36; exact stillB B1.out G.ck)))
  go_wp2
  exact bodyPost_ret (v := .tuple #[.agg #[.int .u64 0, .slice none 0 0], .int .i64 0, .int .i64 2]) (by simp [results, Tryd.results27, go_sem]) rfl (GetPost.bad _ _ _ ((((below_n B1.out _).setCell (p := ⟨w.heap.size, 0, none⟩) (Nat.le_refl _) _).setCell (p := ⟨w.heap.size, 1, none⟩) (Nat.le_refl _) _)))
theorem obj2f {w : World} {g : Nat} {x y : Value} {t : TypeId} (h : w.heap[g]? = some (.cells #[x, y] t (0, 0))) : (w.frozen? ⟨g, 0, none⟩ = false ∧ w.frozen? ⟨g, 1, none⟩ = false) :=
  ⟨by simp [World.frozen?, h], by simp [World.frozen?, h]⟩
theorem OwnB.low {w : World} {base b : Nat} {A : Option Addr} {cap : Nat} {zs : List Int} (h : OwnB w base A cap zs) (hb : b ≤ base) : OwnB w b A cap zs := ⟨Joins.ownsRow_le h.1 hb, h.2⟩
set_option maxHeartbeats 4000000 in
theorem get_good (A : Option Addr) (n cap l : Nat) (S T : Int) (ps : List Int) (hc : n ≤ cap) (h1 : l ≤ 1024) (h2 : 16 + l ≤ n) (w : World) (G : Gt w A cap l S S T ps) :
    Calls Tryd.prog 27 #[.slice A n cap] w (GetPost w T ps (16 + l) 0) := by
  have hn' : 4 ≤ (n : Int) := by omega
  have h1' : (l : Int) ≤ 1024 := by omega
  have h2' : 16 + (l : Int) ≤ (n : Int) := by omega
  have s4 : ∀ W, (Instr.slice 32 (.slice A n cap) none (some (.int .i64 4)) none).run Tryd.prog W = .ok (.slice A 4 cap) W := fun W => slice_to A n cap 4 (by omega) .i64 W
  have s12 : ∀ W, (Instr.slice 32 (.slice A n cap) none (some (.int .i64 12)) none).run Tryd.prog W = .ok (.slice A 12 cap) W := fun W => slice_to A n cap 12 (by omega) .i64 W
  have s12' : ∀ W, (Instr.slice 32 (.slice A n cap) (some (.int .i64 12)) (some (.int .i64 16)) none).run Tryd.prog W = .ok (.slice (tailA A cap 12) 4 (cap - 12)) W := fun W => slice_mid A n cap 12 16 (by omega) (by omega) .i64 .i64 W
  have s16 := mid16 A n cap l h2 hc
  have s4' : ∀ W, (Instr.slice 32 (.slice A n cap) (some (.int .i64 4)) (some (.int .i64 12)) none).run Tryd.prog W = .ok (.slice (tailA A cap 4) 8 (cap - 4)) W := fun W => slice_mid A n cap 4 12 (by omega) (by omega) .i64 .i64 W
  have B1 : Hid (Below w.heap.size w (w.alloc (.cells #[.int .u64 0, .slice none 0 0] 34))) := (Below.refl _ _).alloc (Nat.le_refl _) _
  go_enter Tryd.func27, Tryd.ntmps27
  go_wp2_with fail
  refine (G.n0 _ B1.out).mono ?_; rintro e w' ⟨rfl, rfl⟩
  go_wp2_with fail
  go_quiet ((first | (go_at_call 47; exact stillB B1.out G.n12) | (go_at_call 36; exact stillB B1.out G.ck)))
  go_wp2_with fail
  refine (G.n4 _ (below_n B1.out _)).mono ?_; rintro e w' ⟨rfl, rfl⟩
  go_wp2_with fail
  refine (G.cl _ (below_n B1.out _)).mono ?_; rintro e w2 ⟨zs, A2, c2, hz, rfl, ho, hg⟩
  have O2 : Hid (w2.heap[w.heap.size]? = some (.cells #[.int .u64 0, .slice none 0 0] 34 (0, 0))) := Lib.hid (hg.obj _ _ _ _ (by exact heap_alloc_new w _) (by decide))
  have OW := Lib.hid (ho.low (b := w.heap.size) (by simp))
  have B2 := Lib.hid (below_on (below_n B1.out _) hg.below)
  clear ho hg
  obtain ⟨x0, x1⟩ := obj2 O2.out
  obtain ⟨f0, f1⟩ := obj2f O2.out
  go_wp2
  have O3 : Hid ((w2.setCell ⟨w.heap.size, 0, none⟩ (.int .u64 T)).heap[w.heap.size]? = some (.cells #[.int .u64 T, .slice none 0 0] 34 (0, 0))) := Lib.hid (heap_setCell_same w2 w.heap.size 0 _ _ _ O2.out)
  have O4 : Hid (((w2.setCell ⟨w.heap.size, 0, none⟩ (.int .u64 T)).setCell ⟨w.heap.size, 1, none⟩ (.slice A2 zs.length c2)).heap[w.heap.size]? = some (.cells #[.int .u64 T, .slice A2 zs.length c2] 34 (0, 0))) := Lib.hid (heap_setCell_same _ w.heap.size 1 _ _ _ O3.out)
  obtain ⟨r0, r1⟩ := obj2 O3.out
  obtain ⟨q0, q1⟩ := obj2 O4.out
  exact bodyPost_ret (v := .tuple #[.agg #[.int .u64 T, .slice A2 zs.length c2], .int .i64 (16 + (l : Int)), .int .i64 0]) (by simp [results, Tryd.results27, go_sem, r1, q0, q1]) rfl
    (GetPost.good _ _ _ _ _ _ _ _ _ hz.out (by omega) ((OW.out.set O2.out (by decide) 0 (.int .u64 T)).set O3.out (by decide) 1 _) ((B2.out.setCell (p := ⟨w.heap.size, 0, none⟩) (Nat.le_refl _) _).setCell (p := ⟨w.heap.size, 1, none⟩) (Nat.le_refl _) _))
theorem tailA_some {b off cap k : Nat} : ∃ off', tailA (some ⟨b, off, none⟩) cap k = some ⟨b, off', none⟩ := by
  unfold tailA
  split
  · exact ⟨off, rfl⟩
  · exact ⟨off + k, by show some (Addr.add ⟨b, off, none⟩ k) = _; rw [add_off]⟩
theorem get_any (A : Option Addr) (zs : List Int) (cap : Nat) (hl : zs.length ≤ 9223372036854775807) (hc : zs.length ≤ cap) (w : World) (hb : Bytes w w.heap.size A zs) :
    Calls Tryd.prog 27 #[.slice A zs.length cap] w (GetPost w (Fr.getA zs) (Fr.getP zs) (Fr.getN zs) (Fr.errG zs)) := by
  have hby := hb.byte
  by_cases h4 : zs.length < 4
  · have e : Fr.errG zs = 3 := by unfold Fr.errG; rw [if_pos h4]
    rw [Fr.getA_bad (by rw [e]; decide), Fr.getP_bad (by rw [e]; decide), Fr.getN_bad (by rw [e]; decide), e]
    exact get_short A _ cap h4 w
  have hr := Fr.lenG_range hby (by omega)
  obtain ⟨l, hl0⟩ := Int.eq_ofNat_of_zero_le hr.1
  have n0 : ∀ W, Below w.heap.size w W → Calls Tryd.prog 47 #[.slice A 4 cap] W fun e w' => e = .returned (.int .u64 (l : Int)) ∧ W = w' := fun W hW => by
    have h := number_any w.heap.size A (zs.take 4) cap (by rw [List.length_take]; omega) W ((hb.below hW).head 4)
    rw [List.length_take, Nat.min_eq_left (by omega)] at h
    have e : Fr.valB (zs.take 4) = (l : Int) := hl0
    rw [e] at h
    exact h
  by_cases h1 : 1024 < l
  · have e : Fr.errG zs = 14 := by unfold Fr.errG; rw [if_neg h4, if_pos (by omega)]
    rw [Fr.getA_bad (by rw [e]; decide), Fr.getP_bad (by rw [e]; decide), Fr.getN_bad (by rw [e]; decide), e]
    exact get_large A _ cap l (by omega) hc h1 w n0
  by_cases h2 : zs.length < 16 + l
  · have e : Fr.errG zs = 3 := by unfold Fr.errG; rw [if_neg h4, if_neg (by omega), if_pos (by omega)]
    rw [Fr.getA_bad (by rw [e]; decide), Fr.getP_bad (by rw [e]; decide), Fr.getN_bad (by rw [e]; decide), e]
    exact get_more A _ cap l (by omega) hc (by omega) h2 w n0
  have ep : Fr.payG zs = (zs.drop 16).take l := by unfold Fr.payG; rw [hl0]; rfl
  have lp : (Fr.payG zs).length = l := by rw [ep, List.length_take, List.length_drop]; omega
  have hpb : ∀ W, Below w.heap.size w W → Bytes W w.heap.size (tailA A cap 16) (Fr.payG zs) := fun W hW => by rw [ep]; exact ((hb.below hW).tail 16 cap hc).head l
  have n12 : ∀ W, Below w.heap.size w W → Calls Tryd.prog 47 #[.slice (tailA A cap 12) 4 (cap - 12)] W fun e w' => e = .returned (.int .u64 (Fr.sumG zs)) ∧ W = w' := fun W hW => by
    have h := number_any w.heap.size (tailA A cap 12) ((zs.drop 12).take 4) (cap - 12) (by rw [List.length_take]; omega) W (((hb.below hW).tail 12 cap hc).head 4)
    rw [List.length_take, List.length_drop, Nat.min_eq_left (by omega)] at h
    exact h
  have n4 : ∀ W, Below w.heap.size w W → Calls Tryd.prog 47 #[.slice (tailA A cap 4) 8 (cap - 4)] W fun e w' => e = .returned (.int .u64 (Fr.atG zs)) ∧ W = w' := fun W hW => by
    have h := number_any w.heap.size (tailA A cap 4) ((zs.drop 4).take 8) (cap - 4) (by rw [List.length_take]; omega) W (((hb.below hW).tail 4 cap hc).head 8)
    rw [List.length_take, List.length_drop, Nat.min_eq_left (by omega)] at h
    exact h
  have ck : ∀ W, Below w.heap.size w W → Calls Tryd.prog 36 #[.slice A 12 cap, .slice (tailA A cap 16) l (cap - 16)] W fun e w' => e = .returned (.int .u64 (Fr.ckV (zs.take 12) (Fr.payG zs))) ∧ W = w' := fun W hW => by
    have h := check_any w.heap.size w.heap.size A (tailA A cap 16) (zs.take 12) (Fr.payG zs) cap (cap - 16) (by rw [List.length_take]; omega) (by omega) W ((hb.below hW).head 12) (hpb W hW)
    rw [List.length_take, Nat.min_eq_left (by omega), lp] at h
    exact h
  have cl : ∀ W, Below w.heap.size w W → Calls Tryd.prog 48 #[.slice (tailA A cap 16) l (cap - 16)] W (AppPost W W.heap.size (Fr.payG zs)) := fun W hW => by
    have hq := hpb W hW
    obtain ⟨b, off, z, rfl, _, _, _, _, _⟩ := hb.at_ (show 0 < zs.length by omega)
    obtain ⟨off', et⟩ := tailA_some (b := b) (off := off) (cap := cap) (k := 16)
    rw [et] at hq ⊢
    have h := clone_any b off' (Fr.payG zs) (cap - 16) (by omega) W (hq.more hW.size)
    rw [lp] at h
    exact h
  by_cases hs : Fr.ckV (zs.take 12) (Fr.payG zs) = Fr.sumG zs
  · have e : Fr.errG zs = 0 := by unfold Fr.errG; rw [if_neg h4, if_neg (by omega), if_neg (by omega), if_pos hs]
    have es : Fr.sizeG zs = 16 + l := by unfold Fr.sizeG; rw [hl0]; rfl
    rw [Fr.getA_ok e, Fr.getP_ok e, Fr.getN_ok e, e, es]
    rw [hs] at ck
    exact get_good A _ cap l _ _ _ hc (by omega) (by omega) w ⟨n0, n12, n4, ck, cl⟩
  · have e : Fr.errG zs = 2 := by unfold Fr.errG; rw [if_neg h4, if_neg (by omega), if_neg (by omega), if_neg hs]
    rw [Fr.getA_bad (by rw [e]; decide), Fr.getP_bad (by rw [e]; decide), Fr.getN_bad (by rw [e]; decide), e]
    exact get_form A _ cap l _ _ _ _ hc (by omega) (by omega) (by simp; exact fun h => hs h.symm) w ⟨n0, n12, n4, ck, cl⟩
end Go.Proofs.YtlaomaefhanacaaDoor
