/-
  The law EpochsKnown: the fixed examples of chapter 8.
-/
import Derived.Test.YtfidakogpgdnjaaEpAwake
import Derived.Test.YtfidakogpgdnjaaEpMeet
import Derived.Test.YtfidakogpgdnjaaEpAdd
import Derived.Deep.CutRange
namespace Go.Proofs.Ytfidakogpgdnjaa
open Go.RowKit
/-- A table in its box. -/
def Tab (W : World) (g : Nat) (A : Option Addr) (n cap : Nat) (l : List Int) (x : Int) : Prop :=
  l.length = n ∧ n ≤ cap ∧ W.heap[g]? = some (.cells #[.slice A n cap, .int .i64 x] 25 (0, 0)) ∧ Sts W W.heap.size A l
theorem Tab.on {W W' : World} {g : Nat} {A : Option Addr} {n cap : Nat} {l : List Int} {x : Int} (h : Tab W g A n cap l x) (hb : Below W.heap.size W W') : Tab W' g A n cap l x :=
  ⟨h.1, h.2.1, (hb.block _ (lt_of_block h.2.2.1)).trans h.2.2.1, h.2.2.2.on hb⟩
theorem Tab.len {W : World} {g : Nat} {A : Option Addr} {n cap : Nat} {l : List Int} {x : Int} (h : Tab W g A n cap l x) : l.length = n := h.1
theorem Tab.sts {W : World} {g : Nat} {A : Option Addr} {n cap : Nat} {l : List Int} {x : Int} (h : Tab W g A n cap l x) : Sts W W.heap.size A l := h.2.2.2
theorem Tab.drew {W : World} {g : Nat} {A : Option Addr} {n cap : Nat} {l : List Int} {x : Int} (h : Tab W g A n cap l x) : Tab W.drew g A n cap l x := ⟨h.1, h.2.1, h.2.2.1, h.2.2.2⟩
theorem Tab.new {W : World} {A : Option Addr} {n cap : Nat} {l : List Int} {x : Int} (h1 : l.length = n) (h2 : n ≤ cap) (h3 : Sts W W.heap.size A l) : Tab (W.alloc (.cells #[.slice A n cap, .int .i64 x] 25)) W.heap.size A n cap l x :=
  ⟨h1, h2, heap_alloc_new .., h3.on ((Below.refl _ _).alloc (Nat.le_refl _) _)⟩
theorem Tab.set2 {W : World} {g : Nat} {A : Option Addr} {n cap : Nat} {l : List Int} {x : Int} (h1 : l.length = n) (h2 : n ≤ cap) (h3 : Sts W W.heap.size A l) (h4 : W.heap[g]? = some (.cells #[.slice none 0 0, .int .i64 0] 25 (0, 0))) :
    Tab ((W.setCell ⟨g, 0, none⟩ (.slice A n cap)).setCell ⟨g, 1, none⟩ (.int .i64 x)) g A n cap l x := by
  have k1 := heap_setCell_same W g 0 _ _ (.slice A n cap) h4
  have k2 := heap_setCell_same _ g 1 _ _ (.int .i64 x) k1
  refine ⟨h1, h2, k2, h3.1, fun hn => ?_⟩
  obtain ⟨b, off, e, hb, hc⟩ := h3.2 hn
  refine ⟨b, off, e, by simp [World.setCell]; exact hb, fun i hi => ?_⟩
  have hne : b ≠ g := by
    rintro rfl
    have h0 := hc 0 hn
    rw [cell_of_row W b (off + 0) _ _ _ h4] at h0
    match off + 0, h0 with
    | 0, h0 => simp at h0
    | 1, h0 => simp at h0
    | j + 2, h0 => simp at h0
  exact (World.cell?_of_block ((Below.heap_setCell _ _ _ _ hne).trans (Below.heap_setCell _ _ _ _ hne))).trans (hc i hi)
theorem m1 : Ep.meetV [17592186044416, 17592186044420] 9 [17592186044416, 52776558133253] 9 = 0 := Ep.meet_bad (by decide)
theorem m2 : Ep.meetV [17592186044416, 52776558133253] 9 [17592186044416, 35184372088836, 70368744177670] 8 = 4 := by
  have h : Ep.shared [17592186044416, 52776558133253] [17592186044416, 35184372088836, 70368744177670] 2 3 = (1, 1) := by simp [Ep.shared]
  unfold Ep.meetV
  rw [if_pos (by decide)]
  exact (congrArg (Ep.meetIn [17592186044416, 52776558133253] 9 [17592186044416, 35184372088836, 70368744177670] 8) h).trans (by decide)
theorem m3 : Ep.meetV [17592186044416, 35184372088836, 70368744177670] 8 [17592186044416, 52776558133253] 9 = 4 := by rw [Ep.meet_swap]; exact m2
theorem m4 : Ep.meetV [17592186044416, 52776558133253] 9 [17592186044416, 52776558133253] 9 = 9 := Ep.meet_self (by decide)
theorem m5 : Ep.meetV [17592186044416, 52776558133253] 9 [35184372088832] 3 = 0 := by
  have h : Ep.shared [17592186044416, 52776558133253] [35184372088832] 2 1 = (1, 0) := by simp [Ep.shared]
  unfold Ep.meetV
  rw [if_pos (by decide)]
  exact (congrArg (Ep.meetIn [17592186044416, 52776558133253] 9 [35184372088832] 3) h).trans (by decide)
theorem m6 : Ep.meetV [] 7 [] 7 = 7 := Ep.meet_self (by decide)
theorem m7 : Ep.meetV [] 7 [17592186044416, 52776558133253] 9 = 0 := by
  have h : Ep.shared [] [17592186044416, 52776558133253] 0 2 = (0, 2) := by simp [Ep.shared]
  unfold Ep.meetV
  rw [if_pos (by decide)]
  exact (congrArg (Ep.meetIn [] 7 [17592186044416, 52776558133253] 9) h).trans (by decide)
theorem Tab.cells {W : World} {g : Nat} {A : Option Addr} {n cap : Nat} {l : List Int} {x : Int} (h : Tab W g A n cap l x) : W.cell? ⟨g, 0, none⟩ = some (.slice A n cap) ∧ W.cell? ⟨g, 1, none⟩ = some (.int .i64 x) := (ob2 h.2.2.1).1
theorem Tab.at {W : World} {g : Nat} {A : Option Addr} {n cap : Nat} {l : List Int} {x : Int} (h : Tab W g A n cap l x) (o v : Int) (b : Bool) (h0 : -9223372036854775808 ≤ o) (h1 : o ≤ 9223372036854775807) (hn : n ≤ 100) (hv : Ep.atV l x o = v) (hi : Ep.inAt l x o = b) :
    Calls Try.prog 10 #[.agg #[.slice A n cap, .int .i64 x], .int .i64 o] W (AtPost W v b) := by
  obtain ⟨rfl, _, _, hs⟩ := h
  subst hv hi
  exact at_any A l cap x o h0 h1 (by omega) W hs
def LPost (W : World) (L : List Int) (x : Int) (b : Bool) (n : Nat) (e : Ending) (w' : World) : Prop :=
  ∃ A cap, e = .returned (.tuple #[.agg #[.slice A n cap, .int .i64 x], .bool b]) ∧ Hid (Sts w' w'.heap.size A L) ∧ Hid (n ≤ cap) ∧ Hid (Below W.heap.size W w')
theorem LPost.of {W : World} {L : List Int} {x : Int} {b : Bool} {L' : List Int} {x' : Int} {b' : Bool} {n : Nat} {f : FuncId} {args : Array Value} (h : Calls Try.prog f args W (TabPost W L x b)) (h1 : L = L') (h2 : x = x') (h3 : b = b') (h4 : L'.length = n) :
    Calls Try.prog f args W (LPost W L' x' b' n) := by
  subst h1 h2 h3 h4
  exact h.mono fun e w' ⟨A, cap, he, ho, hb⟩ => ⟨A, cap, he, Lib.hid ho.out.sts, Lib.hid ho.out.cap_, hb⟩
theorem LPost.lit {W : World} {o : Obj} {L : List Int} {x : Int} {b : Bool} {n : Nat} {f : FuncId} {args : Array Value} (h : Calls Try.prog f args (W.alloc o) (LPost (W.alloc o) L x b n)) : Calls Try.prog f args (W.alloc o) (LPost W L x b n) :=
  h.mono fun e w' ⟨A, cap, he, hs, hc, hb⟩ => ⟨A, cap, he, hs, hc, Lib.hid (((Below.refl _ _).alloc (Nat.le_refl _) _).trans (hb.out.mono (by simp)))⟩
theorem of_lit (W : World) (zs L : List Int) (x : Int) (b : Bool) (n m : Nat) (cs : Array Value) (hm : zs.length = m) (hc : cs = (zs.map (Value.int .u64)).toArray) (hz : ∀ i, i < zs.length → 0 ≤ zs.getD i 0 ∧ zs.getD i 0 < 18446744073709551616) (hn : L.length = n) (hl : zs.length ≤ 100)
    (hv : ((Ep.ofV zs).getD ([], 0), (Ep.ofV zs).isSome) = ((L, x), b)) :
    Calls Try.prog 8 #[.slice (some ⟨W.heap.size, 0, none⟩) m m] (W.alloc (.cells cs 29)) (LPost W L x b n) := by
  subst hm
  have h := of_any (some ⟨W.heap.size, 0, none⟩) zs zs.length (by omega) _ (Sts.new W zs hz (0, 0) cs hc).size_
  injection hv with h1 h2
  exact LPost.lit (LPost.of h (by rw [h1]) (by rw [h1]) h2 hn)
theorem nil_len : ([] : List Int).length = 0 := rfl
theorem of_nil (W : World) : Calls Try.prog 8 #[.slice none 0 0] W (LPost W [] 0 true 0) :=
  LPost.of (of_any none [] 0 (by decide) W Sts.nil_) rfl rfl rfl rfl
theorem Tab.cut {W : World} {g : Nat} {A : Option Addr} {n cap : Nat} {l : List Int} {x : Int} (h : Tab W g A n cap l x) (o : Int) (L : List Int) (y : Int) (b : Bool) (m : Nat) (h0 : -9223372036854775808 ≤ o) (h1 : o ≤ 9223372036854775807) (hn : n ≤ 100) (e1 : Ep.cutL l x o = L) (e2 : Ep.cutE l x o = y) (e3 : Ep.inCut l x o = b) (e4 : L.length = m) :
    Calls Try.prog 11 #[.agg #[.slice A n cap, .int .i64 x], .int .i64 o] W (LPost W L y b m) := by
  obtain ⟨rfl, hc, _, hs⟩ := h
  exact LPost.of (cut_any A l cap x o h0 h1 (by omega) hc W hs) e1 e2 e3 e4
theorem Tab.add {W : World} {g : Nat} {A : Option Addr} {n cap : Nat} {l : List Int} {x : Int} (h : Tab W g A n cap l x) (s : Int) (L : List Int) (y : Int) (b : Bool) (m : Nat) (h0 : 0 ≤ s) (h1 : s < 18446744073709551616) (hn : n ≤ 100) (e1 : Ep.addL l x s = L) (e2 : Ep.addE l x s = y) (e3 : Ep.inAdd l x s = b) (e4 : L.length = m) :
    Calls Try.prog 12 #[.agg #[.slice A n cap, .int .i64 x], .int .u64 s] W (LPost W L y b m) := by
  obtain ⟨rfl, hc, _, hs⟩ := h
  exact LPost.of (add_any A l cap x s h0 h1 (by omega) W hs) e1 e2 e3 e4
theorem Tab.good {W : World} {g : Nat} {A : Option Addr} {n cap : Nat} {l : List Int} {x : Int} (h : Tab W g A n cap l x) (b : Bool) (hn : n ≤ 100) (e : Ep.good l x = b) :
    Calls Try.prog 13 #[.agg #[.slice A n cap, .int .i64 x]] W (BoolB W b) := by
  obtain ⟨rfl, hc, _, hs⟩ := h
  subst e
  exact good_any A l cap x (by omega) W hs
theorem meet_of {W : World} {A B : Option Addr} {n m ca cb : Nat} {a b : List Int} {x y : Int} (ha : a.length = n) (hb : b.length = m) (h1 : Sts W W.heap.size A a) (h2 : Sts W W.heap.size B b) (v : Int) (hn : n ≤ 100) (hm : m ≤ 100) (e : Ep.meetV a x b y = v) :
    Calls Try.prog 14 #[.agg #[.slice A n ca, .int .i64 x], .agg #[.slice B m cb, .int .i64 y]] W (MeetPost W v) := by
  subst ha hb e
  exact meet_any A B a b ca cb x y (by omega) (by omega) W h1 h2
theorem lit1 (W : World) : Sts (W.alloc (.cells #[.int .u64 17592186044419] 29)) (W.alloc (.cells #[.int .u64 17592186044419] 29)).heap.size (some ⟨W.heap.size, 0, none⟩) [17592186044419] := (Sts.new W [17592186044419] (by decide) (0, 0) _ rfl).size_
theorem at_lit (W : World) : Calls Try.prog 10 #[.agg #[.slice (some ⟨W.heap.size, 0, none⟩) 1 1, .int .i64 9], .int .i64 2] (W.alloc (.cells #[.int .u64 17592186044419] 29)) (AtPost W 0 false) := by
  have h := at_any (some ⟨W.heap.size, 0, none⟩) [17592186044419] 1 9 2 (by decide) (by decide) (by decide) _ (lit1 W)
  rw [show Ep.atV [17592186044419] 9 2 = 0 by decide, show Ep.inAt [17592186044419] 9 2 = false by decide] at h
  exact h.mono fun e w' ⟨he, hb⟩ => ⟨he, Lib.hid (((Below.refl _ _).alloc (Nat.le_refl _) _).trans (hb.out.mono (by simp)))⟩
theorem cut_lit (W : World) : Calls Try.prog 11 #[.agg #[.slice (some ⟨W.heap.size, 0, none⟩) 1 1, .int .i64 9], .int .i64 3] (W.alloc (.cells #[.int .u64 17592186044419] 29)) (LPost W [] 3 true 0) :=
  LPost.lit (LPost.of (cut_any (some ⟨W.heap.size, 0, none⟩) [17592186044419] 1 9 3 (by decide) (by decide) (by decide) (by decide) _ (lit1 W)) (by decide) (by decide) (by decide) (by decide))
set_option maxHeartbeats 8000000 in
set_option maxRecDepth 100000 in
theorem known_walk (w : World) : Calls Try.prog 3 #[] w fun e w' => e = .returned (.bool true) ∧ Below w.heap.size w w' := by
  have K10 : Hid (∀ W, Calls Try.prog 9 #[.int .i64 1, .int .i64 0] W fun e' w' => e' = .returned (.int .u64 17592186044416) ∧ W = w') := Lib.hid (pk_any 1 0)
  have K12 : Hid (∀ W, Calls Try.prog 9 #[.int .i64 1, .int .i64 2] W fun e' w' => e' = .returned (.int .u64 17592186044418) ∧ W = w') := Lib.hid (pk_any 1 2)
  have K20 : Hid (∀ W, Calls Try.prog 9 #[.int .i64 2, .int .i64 0] W fun e' w' => e' = .returned (.int .u64 35184372088832) ∧ W = w') := Lib.hid (pk_any 2 0)
  have K11 : Hid (∀ W, Calls Try.prog 9 #[.int .i64 1, .int .i64 1] W fun e' w' => e' = .returned (.int .u64 17592186044417) ∧ W = w') := Lib.hid (pk_any 1 1)
  have K35 : Hid (∀ W, Calls Try.prog 9 #[.int .i64 3, .int .i64 5] W fun e' w' => e' = .returned (.int .u64 52776558133253) ∧ W = w') := Lib.hid (pk_any 3 5)
  have K24 : Hid (∀ W, Calls Try.prog 9 #[.int .i64 2, .int .i64 4] W fun e' w' => e' = .returned (.int .u64 35184372088836) ∧ W = w') := Lib.hid (pk_any 2 4)
  have K46 : Hid (∀ W, Calls Try.prog 9 #[.int .i64 4, .int .i64 6] W fun e' w' => e' = .returned (.int .u64 70368744177670) ∧ W = w') := Lib.hid (pk_any 4 6)
  have K13 : Hid (∀ W, Calls Try.prog 9 #[.int .i64 1, .int .i64 3] W fun e' w' => e' = .returned (.int .u64 17592186044419) ∧ W = w') := Lib.hid (pk_any 1 3)
  have K29 : Hid (∀ W, Calls Try.prog 9 #[.int .i64 2, .int .i64 9] W fun e' w' => e' = .returned (.int .u64 35184372088841) ∧ W = w') := Lib.hid (pk_any 2 9)
  have K39 : Hid (∀ W, Calls Try.prog 9 #[.int .i64 3, .int .i64 9] W fun e' w' => e' = .returned (.int .u64 52776558133257) ∧ W = w') := Lib.hid (pk_any 3 9)
  have K14 : Hid (∀ W, Calls Try.prog 9 #[.int .i64 1, .int .i64 4] W fun e' w' => e' = .returned (.int .u64 17592186044420) ∧ W = w') := Lib.hid (pk_any 1 4)
  go_enter Try.func3, Try.ntmps3
  go_wp2_with fail
  (with_reducible refine (awake_any _).mono ?_); rintro e' w1 ⟨rfl, b⟩
  have BB2 : Hid (Below w.heap.size w w1) := Lib.hid b.out
  clear b
  go_wp2_with fail
  (with_reducible refine (K10.out _).mono ?_); rintro e' w' ⟨rfl, rfl⟩
  go_wp2_with fail
  (with_reducible refine (K12.out _).mono ?_); rintro e' w' ⟨rfl, rfl⟩
  go_wp2_with fail
  (with_reducible refine (of_lit w1 [17592186044416, 17592186044418] [] 0 false 0 2 #[.int .u64 17592186044416, .int .u64 17592186044418] rfl rfl (by decide) (by decide) (by decide) (by decide)).mono ?_); rintro e' w3 ⟨Aw3, cw3, rfl, s, hc, b⟩
  have BB4 : Hid (Below w.heap.size w w3) := Lib.hid (BB2.out.trans (b.out.mono BB2.out.size))
  clear BB2 
  clear b
  go_wp2_with fail
  obtain ⟨W5, hW5⟩ : ∃ W, W = w3.alloc (.cells #[.slice Aw3 0 cw3, .int .i64 0] 25) := ⟨_, rfl⟩
  rw [← hW5]
  have b : Hid (Below w3.heap.size w3 W5) := Lib.hid (by rw [hW5]; exact (Below.refl _ _).alloc (Nat.le_refl _) _)
  clear hW5 s hc
  have BB6 : Hid (Below w.heap.size w W5) := Lib.hid (BB4.out.trans (b.out.mono BB4.out.size))
  clear BB4 
  clear b
  (with_reducible refine (K20.out _).mono ?_); rintro e' w' ⟨rfl, rfl⟩
  go_wp2_with fail
  (with_reducible refine (K11.out _).mono ?_); rintro e' w' ⟨rfl, rfl⟩
  go_wp2_with fail
  (with_reducible refine (of_lit W5 [35184372088832, 17592186044417] [] 0 false 0 2 #[.int .u64 35184372088832, .int .u64 17592186044417] rfl rfl (by decide) (by decide) (by decide) (by decide)).mono ?_); rintro e' w7 ⟨Aw7, cw7, rfl, s, hc, b⟩
  have BB8 : Hid (Below w.heap.size w w7) := Lib.hid (BB6.out.trans (b.out.mono BB6.out.size))
  clear BB6 
  clear b
  go_wp2_with fail
  obtain ⟨W9, hW9⟩ : ∃ W, W = w7.alloc (.cells #[.slice Aw7 0 cw7, .int .i64 0] 25) := ⟨_, rfl⟩
  rw [← hW9]
  have b : Hid (Below w7.heap.size w7 W9) := Lib.hid (by rw [hW9]; exact (Below.refl _ _).alloc (Nat.le_refl _) _)
  clear hW9 s hc
  have BB10 : Hid (Below w.heap.size w W9) := Lib.hid (BB8.out.trans (b.out.mono BB8.out.size))
  clear BB8 
  clear b
  (with_reducible refine (of_nil _).mono ?_); rintro e' w11 ⟨Aw11, cw11, rfl, s, hc, b⟩
  have BB12 : Hid (Below w.heap.size w w11) := Lib.hid (BB10.out.trans (b.out.mono BB10.out.size))
  clear BB10 
  clear b
  go_wp2_with fail
  obtain ⟨W13, hW13⟩ : ∃ W, W = w11.alloc (.cells #[.slice Aw11 0 cw11, .int .i64 0] 25) := ⟨_, rfl⟩
  rw [← hW13]
  have b : Hid (Below w11.heap.size w11 W13) := Lib.hid (by rw [hW13]; exact (Below.refl _ _).alloc (Nat.le_refl _) _)
  have NT5 : Hid (Tab W13 w11.heap.size Aw11 0 cw11 [] 0) := Lib.hid (by rw [hW13]; exact Tab.new rfl hc.out s.out)
  clear hW13 s hc
  have BB14 : Hid (Below w.heap.size w W13) := Lib.hid (BB12.out.trans (b.out.mono BB12.out.size))
  clear BB12 
  clear b
  obtain ⟨gT5, hgT5⟩ : ∃ g, g = w11.heap.size := ⟨_, rfl⟩
  rw [← hgT5] at NT5 ⊢
  clear hgT5
  have T5 := NT5
  clear NT5
  (with_reducible refine (K10.out _).mono ?_); rintro e' w' ⟨rfl, rfl⟩
  go_wp2_with fail
  (with_reducible refine (K35.out _).mono ?_); rintro e' w' ⟨rfl, rfl⟩
  go_wp2_with fail
  obtain ⟨W15, hW15⟩ : ∃ W, W = W13.alloc (.cells #[.int .u64 17592186044416, .int .u64 52776558133253] 29) := ⟨_, rfl⟩
  rw [← hW15]
  have b : Hid (Below W13.heap.size W13 W15) := Lib.hid (by rw [hW15]; exact (Below.refl _ _).alloc (Nat.le_refl _) _)
  have s : Hid (Sts W15 W15.heap.size (some ⟨W13.heap.size, 0, none⟩) [17592186044416, 52776558133253]) := Lib.hid (by rw [hW15]; exact (Sts.new W13 [17592186044416, 52776558133253] (by decide) (0, 0) _ rfl).size_)
  have z : Hid (W15.heap.size = W13.heap.size + 1) := Lib.hid (by rw [hW15]; simp)
  clear hW15
  have T5n := Lib.hid (T5.out.on b.out)
  have BB17 : Hid (Below w.heap.size w W15) := Lib.hid (BB14.out.trans (b.out.mono BB14.out.size))
  clear BB14 T5
  have T5 := T5n
  clear T5n
  clear b
  obtain ⟨aT7, haT7⟩ : ∃ g, g = W13.heap.size := ⟨_, rfl⟩
  rw [← haT7] at s z ⊢
  clear haT7
  obtain ⟨W16, hW16⟩ : ∃ W, W = W15.alloc (.cells #[.slice (some ⟨aT7, 0, none⟩) 2 2, .int .i64 9] 25) := ⟨_, rfl⟩
  rw [← hW16]
  have b : Hid (Below W15.heap.size W15 W16) := Lib.hid (by rw [hW16]; exact (Below.refl _ _).alloc (Nat.le_refl _) _)
  have NT7 : Hid (Tab W16 W15.heap.size (some ⟨aT7, 0, none⟩) 2 2 [17592186044416, 52776558133253] 9) := Lib.hid (by rw [hW16]; exact Tab.new rfl (by decide) s.out)
  clear hW16 s
  have T5n := Lib.hid (T5.out.on b.out)
  have BB18 : Hid (Below w.heap.size w W16) := Lib.hid (BB17.out.trans (b.out.mono BB17.out.size))
  clear BB17 T5
  have T5 := T5n
  clear T5n
  clear b
  rw [z.out] at NT7
  clear z
  obtain ⟨gT7, hgT7⟩ : ∃ g, g = aT7 + 1 := ⟨_, rfl⟩
  rw [← hgT7] at NT7 ⊢
  clear hgT7
  have T7 := NT7
  clear NT7
  (with_reducible refine (K10.out _).mono ?_); rintro e' w' ⟨rfl, rfl⟩
  go_wp2_with fail
  (with_reducible refine (K24.out _).mono ?_); rintro e' w' ⟨rfl, rfl⟩
  go_wp2_with fail
  (with_reducible refine (K46.out _).mono ?_); rintro e' w' ⟨rfl, rfl⟩
  go_wp2_with fail
  obtain ⟨W19, hW19⟩ : ∃ W, W = W16.alloc (.cells #[.int .u64 17592186044416, .int .u64 35184372088836, .int .u64 70368744177670] 29) := ⟨_, rfl⟩
  rw [← hW19]
  have b : Hid (Below W16.heap.size W16 W19) := Lib.hid (by rw [hW19]; exact (Below.refl _ _).alloc (Nat.le_refl _) _)
  have s : Hid (Sts W19 W19.heap.size (some ⟨W16.heap.size, 0, none⟩) [17592186044416, 35184372088836, 70368744177670]) := Lib.hid (by rw [hW19]; exact (Sts.new W16 [17592186044416, 35184372088836, 70368744177670] (by decide) (0, 0) _ rfl).size_)
  have z : Hid (W19.heap.size = W16.heap.size + 1) := Lib.hid (by rw [hW19]; simp)
  clear hW19
  have T5n := Lib.hid (T5.out.on b.out)
  have T7n := Lib.hid (T7.out.on b.out)
  have BB21 : Hid (Below w.heap.size w W19) := Lib.hid (BB18.out.trans (b.out.mono BB18.out.size))
  clear BB18 T5 T7
  have T5 := T5n
  clear T5n
  have T7 := T7n
  clear T7n
  clear b
  obtain ⟨aT8, haT8⟩ : ∃ g, g = W16.heap.size := ⟨_, rfl⟩
  rw [← haT8] at s z ⊢
  clear haT8
  obtain ⟨W20, hW20⟩ : ∃ W, W = W19.alloc (.cells #[.slice (some ⟨aT8, 0, none⟩) 3 3, .int .i64 8] 25) := ⟨_, rfl⟩
  rw [← hW20]
  have b : Hid (Below W19.heap.size W19 W20) := Lib.hid (by rw [hW20]; exact (Below.refl _ _).alloc (Nat.le_refl _) _)
  have NT8 : Hid (Tab W20 W19.heap.size (some ⟨aT8, 0, none⟩) 3 3 [17592186044416, 35184372088836, 70368744177670] 8) := Lib.hid (by rw [hW20]; exact Tab.new rfl (by decide) s.out)
  clear hW20 s
  have T5n := Lib.hid (T5.out.on b.out)
  have T7n := Lib.hid (T7.out.on b.out)
  have BB22 : Hid (Below w.heap.size w W20) := Lib.hid (BB21.out.trans (b.out.mono BB21.out.size))
  clear BB21 T5 T7
  have T5 := T5n
  clear T5n
  have T7 := T7n
  clear T7n
  clear b
  rw [z.out] at NT8
  clear z
  obtain ⟨gT8, hgT8⟩ : ∃ g, g = aT8 + 1 := ⟨_, rfl⟩
  rw [← hgT8] at NT8 ⊢
  clear hgT8
  have T8 := NT8
  clear NT8
  (with_reducible refine (K20.out _).mono ?_); rintro e' w' ⟨rfl, rfl⟩
  go_upto_region 9 with (fail)
  obtain ⟨W23, hW23⟩ : ∃ W, W = W20.alloc (.cells #[.int .u64 35184372088832] 29) := ⟨_, rfl⟩
  rw [← hW23]
  have b : Hid (Below W20.heap.size W20 W23) := Lib.hid (by rw [hW23]; exact (Below.refl _ _).alloc (Nat.le_refl _) _)
  have s : Hid (Sts W23 W23.heap.size (some ⟨W20.heap.size, 0, none⟩) [35184372088832]) := Lib.hid (by rw [hW23]; exact (Sts.new W20 [35184372088832] (by decide) (0, 0) _ rfl).size_)
  have z : Hid (W23.heap.size = W20.heap.size + 1) := Lib.hid (by rw [hW23]; simp)
  clear hW23
  have T5n := Lib.hid (T5.out.on b.out)
  have T7n := Lib.hid (T7.out.on b.out)
  have T8n := Lib.hid (T8.out.on b.out)
  have BB25 : Hid (Below w.heap.size w W23) := Lib.hid (BB22.out.trans (b.out.mono BB22.out.size))
  clear BB22 T5 T7 T8
  have T5 := T5n
  clear T5n
  have T7 := T7n
  clear T7n
  have T8 := T8n
  clear T8n
  clear b
  obtain ⟨aT9, haT9⟩ : ∃ g, g = W20.heap.size := ⟨_, rfl⟩
  rw [← haT9] at s z ⊢
  clear haT9
  obtain ⟨W24, hW24⟩ : ∃ W, W = W23.alloc (.cells #[.slice (some ⟨aT9, 0, none⟩) 1 1, .int .i64 3] 25) := ⟨_, rfl⟩
  rw [← hW24]
  have b : Hid (Below W23.heap.size W23 W24) := Lib.hid (by rw [hW24]; exact (Below.refl _ _).alloc (Nat.le_refl _) _)
  have NT9 : Hid (Tab W24 W23.heap.size (some ⟨aT9, 0, none⟩) 1 1 [35184372088832] 3) := Lib.hid (by rw [hW24]; exact Tab.new rfl (by decide) s.out)
  clear hW24 s
  have T5n := Lib.hid (T5.out.on b.out)
  have T7n := Lib.hid (T7.out.on b.out)
  have T8n := Lib.hid (T8.out.on b.out)
  have BB26 : Hid (Below w.heap.size w W24) := Lib.hid (BB25.out.trans (b.out.mono BB25.out.size))
  clear BB25 T5 T7 T8
  have T5 := T5n
  clear T5n
  have T7 := T7n
  clear T7n
  have T8 := T8n
  clear T8n
  clear b
  rw [z.out] at NT9
  clear z
  obtain ⟨gT9, hgT9⟩ : ∃ g, g = aT9 + 1 := ⟨_, rfl⟩
  rw [← hgT9] at NT9 ⊢
  clear hgT9
  have T9 := NT9
  clear NT9
  obtain ⟨T7c0, T7c1⟩ := T7.out.cells
  go_wp2_with fail
  (with_reducible refine (T7.out.at 4 1 true (by decide) (by decide) (by decide) (by decide) (by decide)).mono ?_); rintro e' w27 ⟨rfl, b⟩
  clear T7c0 T7c1
  have T5n := Lib.hid (T5.out.on b.out)
  have T7n := Lib.hid (T7.out.on b.out)
  have T8n := Lib.hid (T8.out.on b.out)
  have T9n := Lib.hid (T9.out.on b.out)
  have BB28 : Hid (Below w.heap.size w w27) := Lib.hid (BB26.out.trans (b.out.mono BB26.out.size))
  clear BB26 T5 T7 T8 T9
  have T5 := T5n
  clear T5n
  have T7 := T7n
  clear T7n
  have T8 := T8n
  clear T8n
  have T9 := T9n
  clear T9n
  clear b
  obtain ⟨T7c0, T7c1⟩ := T7.out.cells
  go_wp2_with fail
  (with_reducible refine (T7.out.at 8 3 true (by decide) (by decide) (by decide) (by decide) (by decide)).mono ?_); rintro e' w29 ⟨rfl, b⟩
  clear T7c0 T7c1
  have T5n := Lib.hid (T5.out.on b.out)
  have T7n := Lib.hid (T7.out.on b.out)
  have T8n := Lib.hid (T8.out.on b.out)
  have T9n := Lib.hid (T9.out.on b.out)
  have BB30 : Hid (Below w.heap.size w w29) := Lib.hid (BB28.out.trans (b.out.mono BB28.out.size))
  clear BB28 T5 T7 T8 T9
  have T5 := T5n
  clear T5n
  have T7 := T7n
  clear T7n
  have T8 := T8n
  clear T8n
  have T9 := T9n
  clear T9n
  clear b
  obtain ⟨T7c0, T7c1⟩ := T7.out.cells
  go_wp2_with fail
  (with_reducible refine (T7.out.at 9 0 false (by decide) (by decide) (by decide) (by decide) (by decide)).mono ?_); rintro e' w31 ⟨rfl, b⟩
  clear T7c0 T7c1
  have T5n := Lib.hid (T5.out.on b.out)
  have T7n := Lib.hid (T7.out.on b.out)
  have T8n := Lib.hid (T8.out.on b.out)
  have T9n := Lib.hid (T9.out.on b.out)
  have BB32 : Hid (Below w.heap.size w w31) := Lib.hid (BB30.out.trans (b.out.mono BB30.out.size))
  clear BB30 T5 T7 T8 T9
  have T5 := T5n
  clear T5n
  have T7 := T7n
  clear T7n
  have T8 := T8n
  clear T8n
  have T9 := T9n
  clear T9n
  clear b
  go_wp2_with fail
  (with_reducible refine (K13.out _).mono ?_); rintro e' w' ⟨rfl, rfl⟩
  go_wp2_with fail
  (with_reducible refine (at_lit w31).mono ?_); rintro e' w33 ⟨rfl, b⟩
  have T5n := Lib.hid (T5.out.on b.out)
  have T7n := Lib.hid (T7.out.on b.out)
  have T8n := Lib.hid (T8.out.on b.out)
  have T9n := Lib.hid (T9.out.on b.out)
  have BB34 : Hid (Below w.heap.size w w33) := Lib.hid (BB32.out.trans (b.out.mono BB32.out.size))
  clear BB32 T5 T7 T8 T9
  have T5 := T5n
  clear T5n
  have T7 := T7n
  clear T7n
  have T8 := T8n
  clear T8n
  have T9 := T9n
  clear T9n
  clear b
  obtain ⟨T7c0, T7c1⟩ := T7.out.cells
  go_wp2_with fail
  (with_reducible refine (T7.out.cut 5 [17592186044416] 5 true 1 (by decide) (by decide) (by decide) (by decide) (by decide) (by decide) (by decide)).mono ?_); rintro e' w35 ⟨Aw35, cw35, rfl, s, hc, b⟩
  clear T7c0 T7c1
  have T5n := Lib.hid (T5.out.on b.out)
  have T7n := Lib.hid (T7.out.on b.out)
  have T8n := Lib.hid (T8.out.on b.out)
  have T9n := Lib.hid (T9.out.on b.out)
  have BB36 : Hid (Below w.heap.size w w35) := Lib.hid (BB34.out.trans (b.out.mono BB34.out.size))
  clear BB34 T5 T7 T8 T9
  have T5 := T5n
  clear T5n
  have T7 := T7n
  clear T7n
  have T8 := T8n
  clear T8n
  have T9 := T9n
  clear T9n
  clear b
  go_upto_region 14 with (fail)
  obtain ⟨W37, hW37⟩ : ∃ W, W = w35.alloc (.cells #[.slice Aw35 1 cw35, .int .i64 5] 25) := ⟨_, rfl⟩
  rw [← hW37]
  have b : Hid (Below w35.heap.size w35 W37) := Lib.hid (by rw [hW37]; exact (Below.refl _ _).alloc (Nat.le_refl _) _)
  have NT18 : Hid (Tab W37 w35.heap.size Aw35 1 cw35 [17592186044416] 5) := Lib.hid (by rw [hW37]; exact Tab.new rfl hc.out s.out)
  clear hW37 s hc
  have T5n := Lib.hid (T5.out.on b.out)
  have T7n := Lib.hid (T7.out.on b.out)
  have T8n := Lib.hid (T8.out.on b.out)
  have T9n := Lib.hid (T9.out.on b.out)
  have BB38 : Hid (Below w.heap.size w W37) := Lib.hid (BB36.out.trans (b.out.mono BB36.out.size))
  clear BB36 T5 T7 T8 T9
  have T5 := T5n
  clear T5n
  have T7 := T7n
  clear T7n
  have T8 := T8n
  clear T8n
  have T9 := T9n
  clear T9n
  clear b
  obtain ⟨gT18, hgT18⟩ : ∃ g, g = w35.heap.size := ⟨_, rfl⟩
  rw [← hgT18] at NT18 ⊢
  clear hgT18
  have T18 := NT18
  clear NT18
  obtain ⟨T7c0, T7c1⟩ := T7.out.cells
  go_wp2_with fail
  (with_reducible refine (T7.out.cut 10 [] 0 false 0 (by decide) (by decide) (by decide) (by decide) (by decide) (by decide) (by decide)).mono ?_); rintro e' w39 ⟨Aw39, cw39, rfl, s, hc, b⟩
  clear T7c0 T7c1
  have T5n := Lib.hid (T5.out.on b.out)
  have T7n := Lib.hid (T7.out.on b.out)
  have T8n := Lib.hid (T8.out.on b.out)
  have T9n := Lib.hid (T9.out.on b.out)
  have T18n := Lib.hid (T18.out.on b.out)
  have BB40 : Hid (Below w.heap.size w w39) := Lib.hid (BB38.out.trans (b.out.mono BB38.out.size))
  clear BB38 T5 T7 T8 T9 T18
  have T5 := T5n
  clear T5n
  have T7 := T7n
  clear T7n
  have T8 := T8n
  clear T8n
  have T9 := T9n
  clear T9n
  have T18 := T18n
  clear T18n
  clear b
  go_wp2_with fail
  obtain ⟨W41, hW41⟩ : ∃ W, W = w39.alloc (.cells #[.slice Aw39 0 cw39, .int .i64 0] 25) := ⟨_, rfl⟩
  rw [← hW41]
  have b : Hid (Below w39.heap.size w39 W41) := Lib.hid (by rw [hW41]; exact (Below.refl _ _).alloc (Nat.le_refl _) _)
  have NT20 : Hid (Tab W41 w39.heap.size Aw39 0 cw39 [] 0) := Lib.hid (by rw [hW41]; exact Tab.new rfl hc.out s.out)
  clear hW41 s hc
  have T5n := Lib.hid (T5.out.on b.out)
  have T7n := Lib.hid (T7.out.on b.out)
  have T8n := Lib.hid (T8.out.on b.out)
  have T9n := Lib.hid (T9.out.on b.out)
  have T18n := Lib.hid (T18.out.on b.out)
  have BB42 : Hid (Below w.heap.size w W41) := Lib.hid (BB40.out.trans (b.out.mono BB40.out.size))
  clear BB40 T5 T7 T8 T9 T18
  have T5 := T5n
  clear T5n
  have T7 := T7n
  clear T7n
  have T8 := T8n
  clear T8n
  have T9 := T9n
  clear T9n
  have T18 := T18n
  clear T18n
  clear b
  obtain ⟨gT20, hgT20⟩ : ∃ g, g = w39.heap.size := ⟨_, rfl⟩
  rw [← hgT20] at NT20 ⊢
  clear hgT20
  have T20 := NT20
  clear NT20
  (with_reducible refine (K13.out _).mono ?_); rintro e' w' ⟨rfl, rfl⟩
  go_wp2_with fail
  (with_reducible refine (cut_lit W41).mono ?_); rintro e' w43 ⟨Aw43, cw43, rfl, s, hc, b⟩
  have T5n := Lib.hid (T5.out.on b.out)
  have T7n := Lib.hid (T7.out.on b.out)
  have T8n := Lib.hid (T8.out.on b.out)
  have T9n := Lib.hid (T9.out.on b.out)
  have T18n := Lib.hid (T18.out.on b.out)
  have T20n := Lib.hid (T20.out.on b.out)
  have BB44 : Hid (Below w.heap.size w w43) := Lib.hid (BB42.out.trans (b.out.mono BB42.out.size))
  clear BB42 T5 T7 T8 T9 T18 T20
  have T5 := T5n
  clear T5n
  have T7 := T7n
  clear T7n
  have T8 := T8n
  clear T8n
  have T9 := T9n
  clear T9n
  have T18 := T18n
  clear T18n
  have T20 := T20n
  clear T20n
  clear b
  go_upto_region 16 with (fail)
  obtain ⟨W45, hW45⟩ : ∃ W, W = w43.alloc (.cells #[.slice Aw43 0 cw43, .int .i64 3] 25) := ⟨_, rfl⟩
  rw [← hW45]
  have b : Hid (Below w43.heap.size w43 W45) := Lib.hid (by rw [hW45]; exact (Below.refl _ _).alloc (Nat.le_refl _) _)
  have NT22 : Hid (Tab W45 w43.heap.size Aw43 0 cw43 [] 3) := Lib.hid (by rw [hW45]; exact Tab.new rfl hc.out s.out)
  clear hW45 s hc
  have T5n := Lib.hid (T5.out.on b.out)
  have T7n := Lib.hid (T7.out.on b.out)
  have T8n := Lib.hid (T8.out.on b.out)
  have T9n := Lib.hid (T9.out.on b.out)
  have T18n := Lib.hid (T18.out.on b.out)
  have T20n := Lib.hid (T20.out.on b.out)
  have BB46 : Hid (Below w.heap.size w W45) := Lib.hid (BB44.out.trans (b.out.mono BB44.out.size))
  clear BB44 T5 T7 T8 T9 T18 T20
  have T5 := T5n
  clear T5n
  have T7 := T7n
  clear T7n
  have T8 := T8n
  clear T8n
  have T9 := T9n
  clear T9n
  have T18 := T18n
  clear T18n
  have T20 := T20n
  clear T20n
  clear b
  obtain ⟨gT22, hgT22⟩ : ∃ g, g = w43.heap.size := ⟨_, rfl⟩
  rw [← hgT22] at NT22 ⊢
  clear hgT22
  have T22 := NT22
  clear NT22
  go_cut [24, 25] from 100 to 105 (fun bv kv wx => ∃ (g : Nat) (A : Option Addr) (c : Nat), bv = .pointer (some ⟨g, 0, none⟩) ∧ kv = .bool false ∧ Hid (Below W45.heap.size W45 wx) ∧ Hid (Tab wx g A 0 c [] 0))
  case first =>
    have TD : Hid (Tab (W45.alloc (.cells #[.slice none 0 0, .int .i64 0] 25)).drew gT7 (some ⟨aT7, 0, none⟩) 2 2 [17592186044416, 52776558133253] 9) := Lib.hid (T7.out.on ((Below.refl _ _).alloc (Nat.le_refl _) _)).drew
    have TE : Hid (Tab W45.drew gT7 (some ⟨aT7, 0, none⟩) 2 2 [17592186044416, 52776558133253] 9) := Lib.hid T7.out.drew
    have S0 : Hid (W45.drew.cell? ⟨gT7, 0, none⟩ = some (.slice (some ⟨aT7, 0, none⟩) 2 2) ∧ W45.drew.cell? ⟨gT7, 1, none⟩ = some (.int .i64 9)) := Lib.hid T7.out.drew.cells
    have S1 : Hid ((W45.alloc (.cells #[.slice none 0 0, .int .i64 0] 25)).drew.cell? ⟨gT7, 0, none⟩ = some (.slice (some ⟨aT7, 0, none⟩) 2 2) ∧ (W45.alloc (.cells #[.slice none 0 0, .int .i64 0] 25)).drew.cell? ⟨gT7, 1, none⟩ = some (.int .i64 9)) := Lib.hid TD.out.cells
    have ZG : Hid (gT7 ≠ W45.heap.size) := Lib.hid (Nat.ne_of_lt (lt_of_block T7.out.2.2.1))
    have ZB : Hid ((W45.alloc (.cells #[.slice none 0 0, .int .i64 0] 25)).drew.heap[W45.heap.size]? = some (.cells #[.slice none 0 0, .int .i64 0] 25 (0, 0)) ∧ Below W45.heap.size W45 (W45.alloc (.cells #[.slice none 0 0, .int .i64 0] 25)).drew) := Lib.hid ⟨heap_alloc_new .., (Below.alloc (Below.refl _ _) (Nat.le_refl _) _).drew⟩
    clear T5 T7 T8 T9 T18 T20 T22 BB46
    go_region_held3 (fun w' => w'.cell? ⟨gT7, 0, none⟩ = some (.slice (some ⟨aT7, 0, none⟩) 2 2) ∧ w'.cell? ⟨gT7, 1, none⟩ = some (.int .i64 9)) ((first | exact S0.out | exact S1.out | exact S5.out | exact S6.out _ | exact S7.out _ _ _ | exact S8.out _ _ | go_keep))
      (first
        | (go_simp; go_at_call 9; (with_reducible refine (K29.out _).mono ?_); rintro e w3 ⟨rfl, rfl⟩)
        | (go_simp; go_at_call 12; (with_reducible refine (TE.out.add 35184372088841 [] 0 false 0 (by decide) (by decide) (by decide) (by decide) (by decide) (by decide) (by decide)).mono ?_); rintro e' wA ⟨AwA, cwA, rfl, s, hc, b⟩; have T5' : Hid (Tab wA gT7 (some ⟨aT7, 0, none⟩) 2 2 [17592186044416, 52776558133253] 9) := Lib.hid (TE.out.on b.out); have S5 : Hid (wA.cell? ⟨gT7, 0, none⟩ = some (.slice (some ⟨aT7, 0, none⟩) 2 2) ∧ wA.cell? ⟨gT7, 1, none⟩ = some (.int .i64 9)) := Lib.hid T5'.out.cells; have S6 : Hid (∀ o, ((wA.alloc o).cell? ⟨gT7, 0, none⟩ = some (.slice (some ⟨aT7, 0, none⟩) 2 2) ∧ (wA.alloc o).cell? ⟨gT7, 1, none⟩ = some (.int .i64 9))) := Lib.hid (fun o => (T5'.out.on ((Below.refl _ _).alloc (Nat.le_refl _) o)).cells); have S7 : Hid (∀ o a b, ((((wA.alloc o).setCell ⟨wA.heap.size, 0, none⟩ a).setCell ⟨wA.heap.size, 1, none⟩ b).cell? ⟨gT7, 0, none⟩ = some (.slice (some ⟨aT7, 0, none⟩) 2 2) ∧ (((wA.alloc o).setCell ⟨wA.heap.size, 0, none⟩ a).setCell ⟨wA.heap.size, 1, none⟩ b).cell? ⟨gT7, 1, none⟩ = some (.int .i64 9))) := Lib.hid (fun o a b => (T5'.out.on ((((Below.refl _ _).alloc (Nat.le_refl _) o).setCell (p := ⟨wA.heap.size, 0, none⟩) (Nat.le_refl _) a).setCell (p := ⟨wA.heap.size, 1, none⟩) (Nat.le_refl _) b)).cells))
        | (go_simp; go_at_call 12; (with_reducible refine (TD.out.add 35184372088841 [] 0 false 0 (by decide) (by decide) (by decide) (by decide) (by decide) (by decide) (by decide)).mono ?_); rintro e' wA ⟨AwA, cwA, rfl, s, hc, b⟩; have T5' : Hid (Tab wA gT7 (some ⟨aT7, 0, none⟩) 2 2 [17592186044416, 52776558133253] 9) := Lib.hid (TD.out.on b.out); have S5 : Hid (wA.cell? ⟨gT7, 0, none⟩ = some (.slice (some ⟨aT7, 0, none⟩) 2 2) ∧ wA.cell? ⟨gT7, 1, none⟩ = some (.int .i64 9)) := Lib.hid T5'.out.cells; have ZC : Hid (wA.heap[W45.heap.size]? = some (.cells #[.slice none 0 0, .int .i64 0] 25 (0, 0))) := Lib.hid ((b.out.block _ (lt_of_block ZB.out.1)).trans ZB.out.1); obtain ⟨⟨zc0, zc1⟩, zc2, zc3⟩ := ob2 ZC.out; have S8 : Hid (∀ a b, (((wA.setCell ⟨W45.heap.size, 0, none⟩ a).setCell ⟨W45.heap.size, 1, none⟩ b).cell? ⟨gT7, 0, none⟩ = some (.slice (some ⟨aT7, 0, none⟩) 2 2) ∧ ((wA.setCell ⟨W45.heap.size, 0, none⟩ a).setCell ⟨W45.heap.size, 1, none⟩ b).cell? ⟨gT7, 1, none⟩ = some (.int .i64 9))) := Lib.hid (fun a b => ⟨(World.cell?_of_block ((Below.heap_setCell _ _ _ _ ZG.out).trans (Below.heap_setCell _ _ _ _ ZG.out))).trans S5.out.1, (World.cell?_of_block ((Below.heap_setCell _ _ _ _ ZG.out).trans (Below.heap_setCell _ _ _ _ ZG.out))).trans S5.out.2⟩)))
    all_goals go_wp2_with fail
    all_goals go_meet
    all_goals first
      | exact ⟨_, _, _, rfl, rfl, Lib.hid ((((Below.refl _ _).drew.trans b.out).alloc (Nat.le_trans (Nat.le_refl _) b.out.size) _)), Lib.hid (Tab.new rfl hc.out s.out)⟩
      | exact ⟨_, _, _, rfl, rfl, Lib.hid (((ZB.out.2.trans (b.out.mono ZB.out.2.size)).setCell (p := ⟨W45.heap.size, 0, none⟩) (Nat.le_refl _) _).setCell (p := ⟨W45.heap.size, 1, none⟩) (Nat.le_refl _) _), Lib.hid (Tab.set2 rfl hc.out s.out ZC.out)⟩
  obtain ⟨gT24, aT24, cT24, rfl, rfl, NB, NT24⟩ := hcut
  generalize wc = W47 at *
  have T5n := Lib.hid (T5.out.on NB.out)
  have T7n := Lib.hid (T7.out.on NB.out)
  have T8n := Lib.hid (T8.out.on NB.out)
  have T9n := Lib.hid (T9.out.on NB.out)
  have T18n := Lib.hid (T18.out.on NB.out)
  have T20n := Lib.hid (T20.out.on NB.out)
  have T22n := Lib.hid (T22.out.on NB.out)
  have BB48 : Hid (Below w.heap.size w W47) := Lib.hid (BB46.out.trans (NB.out.mono BB46.out.size))
  clear BB46 T5 T7 T8 T9 T18 T20 T22
  have T5 := T5n
  clear T5n
  have T7 := T7n
  clear T7n
  have T8 := T8n
  clear T8n
  have T9 := T9n
  clear T9n
  have T18 := T18n
  clear T18n
  have T20 := T20n
  clear T20n
  have T22 := T22n
  clear T22n
  clear NB
  have T24 := NT24
  clear NT24
  go_upto_region 17 with (fail)
  go_cut [26, 27] from 106 to 111 (fun bv kv wx => ∃ (g : Nat) (A : Option Addr) (c : Nat), bv = .pointer (some ⟨g, 0, none⟩) ∧ kv = .bool true ∧ Hid (Below W47.heap.size W47 wx) ∧ Hid (Tab wx g A 2 c [17592186044416, 52776558133253] 10))
  case first =>
    have TD : Hid (Tab (W47.alloc (.cells #[.slice none 0 0, .int .i64 0] 25)).drew gT7 (some ⟨aT7, 0, none⟩) 2 2 [17592186044416, 52776558133253] 9) := Lib.hid (T7.out.on ((Below.refl _ _).alloc (Nat.le_refl _) _)).drew
    have TE : Hid (Tab W47.drew gT7 (some ⟨aT7, 0, none⟩) 2 2 [17592186044416, 52776558133253] 9) := Lib.hid T7.out.drew
    have S0 : Hid (W47.drew.cell? ⟨gT7, 0, none⟩ = some (.slice (some ⟨aT7, 0, none⟩) 2 2) ∧ W47.drew.cell? ⟨gT7, 1, none⟩ = some (.int .i64 9)) := Lib.hid T7.out.drew.cells
    have S1 : Hid ((W47.alloc (.cells #[.slice none 0 0, .int .i64 0] 25)).drew.cell? ⟨gT7, 0, none⟩ = some (.slice (some ⟨aT7, 0, none⟩) 2 2) ∧ (W47.alloc (.cells #[.slice none 0 0, .int .i64 0] 25)).drew.cell? ⟨gT7, 1, none⟩ = some (.int .i64 9)) := Lib.hid TD.out.cells
    have ZG : Hid (gT7 ≠ W47.heap.size) := Lib.hid (Nat.ne_of_lt (lt_of_block T7.out.2.2.1))
    have ZB : Hid ((W47.alloc (.cells #[.slice none 0 0, .int .i64 0] 25)).drew.heap[W47.heap.size]? = some (.cells #[.slice none 0 0, .int .i64 0] 25 (0, 0)) ∧ Below W47.heap.size W47 (W47.alloc (.cells #[.slice none 0 0, .int .i64 0] 25)).drew) := Lib.hid ⟨heap_alloc_new .., (Below.alloc (Below.refl _ _) (Nat.le_refl _) _).drew⟩
    clear T5 T7 T8 T9 T18 T20 T22 T24 BB48
    go_region_held3 (fun w' => w'.cell? ⟨gT7, 0, none⟩ = some (.slice (some ⟨aT7, 0, none⟩) 2 2) ∧ w'.cell? ⟨gT7, 1, none⟩ = some (.int .i64 9)) ((first | exact S0.out | exact S1.out | exact S5.out | exact S6.out _ | exact S7.out _ _ _ | exact S8.out _ _ | go_keep))
      (first
        | (go_simp; go_at_call 9; (with_reducible refine (K39.out _).mono ?_); rintro e w3 ⟨rfl, rfl⟩)
        | (go_simp; go_at_call 12; (with_reducible refine (TE.out.add 52776558133257 [17592186044416, 52776558133253] 10 true 2 (by decide) (by decide) (by decide) (by decide) (by decide) (by decide) (by decide)).mono ?_); rintro e' wA ⟨AwA, cwA, rfl, s, hc, b⟩; have T5' : Hid (Tab wA gT7 (some ⟨aT7, 0, none⟩) 2 2 [17592186044416, 52776558133253] 9) := Lib.hid (TE.out.on b.out); have S5 : Hid (wA.cell? ⟨gT7, 0, none⟩ = some (.slice (some ⟨aT7, 0, none⟩) 2 2) ∧ wA.cell? ⟨gT7, 1, none⟩ = some (.int .i64 9)) := Lib.hid T5'.out.cells; have S6 : Hid (∀ o, ((wA.alloc o).cell? ⟨gT7, 0, none⟩ = some (.slice (some ⟨aT7, 0, none⟩) 2 2) ∧ (wA.alloc o).cell? ⟨gT7, 1, none⟩ = some (.int .i64 9))) := Lib.hid (fun o => (T5'.out.on ((Below.refl _ _).alloc (Nat.le_refl _) o)).cells); have S7 : Hid (∀ o a b, ((((wA.alloc o).setCell ⟨wA.heap.size, 0, none⟩ a).setCell ⟨wA.heap.size, 1, none⟩ b).cell? ⟨gT7, 0, none⟩ = some (.slice (some ⟨aT7, 0, none⟩) 2 2) ∧ (((wA.alloc o).setCell ⟨wA.heap.size, 0, none⟩ a).setCell ⟨wA.heap.size, 1, none⟩ b).cell? ⟨gT7, 1, none⟩ = some (.int .i64 9))) := Lib.hid (fun o a b => (T5'.out.on ((((Below.refl _ _).alloc (Nat.le_refl _) o).setCell (p := ⟨wA.heap.size, 0, none⟩) (Nat.le_refl _) a).setCell (p := ⟨wA.heap.size, 1, none⟩) (Nat.le_refl _) b)).cells))
        | (go_simp; go_at_call 12; (with_reducible refine (TD.out.add 52776558133257 [17592186044416, 52776558133253] 10 true 2 (by decide) (by decide) (by decide) (by decide) (by decide) (by decide) (by decide)).mono ?_); rintro e' wA ⟨AwA, cwA, rfl, s, hc, b⟩; have T5' : Hid (Tab wA gT7 (some ⟨aT7, 0, none⟩) 2 2 [17592186044416, 52776558133253] 9) := Lib.hid (TD.out.on b.out); have S5 : Hid (wA.cell? ⟨gT7, 0, none⟩ = some (.slice (some ⟨aT7, 0, none⟩) 2 2) ∧ wA.cell? ⟨gT7, 1, none⟩ = some (.int .i64 9)) := Lib.hid T5'.out.cells; have ZC : Hid (wA.heap[W47.heap.size]? = some (.cells #[.slice none 0 0, .int .i64 0] 25 (0, 0))) := Lib.hid ((b.out.block _ (lt_of_block ZB.out.1)).trans ZB.out.1); obtain ⟨⟨zc0, zc1⟩, zc2, zc3⟩ := ob2 ZC.out; have S8 : Hid (∀ a b, (((wA.setCell ⟨W47.heap.size, 0, none⟩ a).setCell ⟨W47.heap.size, 1, none⟩ b).cell? ⟨gT7, 0, none⟩ = some (.slice (some ⟨aT7, 0, none⟩) 2 2) ∧ ((wA.setCell ⟨W47.heap.size, 0, none⟩ a).setCell ⟨W47.heap.size, 1, none⟩ b).cell? ⟨gT7, 1, none⟩ = some (.int .i64 9))) := Lib.hid (fun a b => ⟨(World.cell?_of_block ((Below.heap_setCell _ _ _ _ ZG.out).trans (Below.heap_setCell _ _ _ _ ZG.out))).trans S5.out.1, (World.cell?_of_block ((Below.heap_setCell _ _ _ _ ZG.out).trans (Below.heap_setCell _ _ _ _ ZG.out))).trans S5.out.2⟩)))
    all_goals go_wp2_with fail
    all_goals go_meet
    all_goals first
      | exact ⟨_, _, _, rfl, rfl, Lib.hid ((((Below.refl _ _).drew.trans b.out).alloc (Nat.le_trans (Nat.le_refl _) b.out.size) _)), Lib.hid (Tab.new rfl hc.out s.out)⟩
      | exact ⟨_, _, _, rfl, rfl, Lib.hid (((ZB.out.2.trans (b.out.mono ZB.out.2.size)).setCell (p := ⟨W47.heap.size, 0, none⟩) (Nat.le_refl _) _).setCell (p := ⟨W47.heap.size, 1, none⟩) (Nat.le_refl _) _), Lib.hid (Tab.set2 rfl hc.out s.out ZC.out)⟩
  obtain ⟨gT26, aT26, cT26, rfl, rfl, NB, NT26⟩ := hcut
  generalize wc = W49 at *
  have T5n := Lib.hid (T5.out.on NB.out)
  have T7n := Lib.hid (T7.out.on NB.out)
  have T8n := Lib.hid (T8.out.on NB.out)
  have T9n := Lib.hid (T9.out.on NB.out)
  have T18n := Lib.hid (T18.out.on NB.out)
  have T20n := Lib.hid (T20.out.on NB.out)
  have T22n := Lib.hid (T22.out.on NB.out)
  have T24n := Lib.hid (T24.out.on NB.out)
  have BB50 : Hid (Below w.heap.size w W49) := Lib.hid (BB48.out.trans (NB.out.mono BB48.out.size))
  clear BB48 T5 T7 T8 T9 T18 T20 T22 T24
  have T5 := T5n
  clear T5n
  have T7 := T7n
  clear T7n
  have T8 := T8n
  clear T8n
  have T9 := T9n
  clear T9n
  have T18 := T18n
  clear T18n
  have T20 := T20n
  clear T20n
  have T22 := T22n
  clear T22n
  have T24 := T24n
  clear T24n
  clear NB
  have T26 := NT26
  clear NT26
  go_upto_region 18 with (fail)
  clear T20
  clear T24
  go_wp2_with fail
  (with_reducible refine (K10.out _).mono ?_); rintro e' w' ⟨rfl, rfl⟩
  go_wp2_with fail
  (with_reducible refine (K14.out _).mono ?_); rintro e' w' ⟨rfl, rfl⟩
  obtain ⟨W51, hW51⟩ : ∃ W, W = W49.alloc (.cells #[.int .u64 17592186044416, .int .u64 17592186044420] 29) := ⟨_, rfl⟩
  have b : Hid (Below W49.heap.size W49 W51) := Lib.hid (by rw [hW51]; exact (Below.refl _ _).alloc (Nat.le_refl _) _)
  have s : Hid (Sts W51 W51.heap.size (some ⟨W49.heap.size, 0, none⟩) [17592186044416, 17592186044420]) := Lib.hid (by rw [hW51]; exact (Sts.new W49 [17592186044416, 17592186044420] (by decide) (0, 0) _ rfl).size_)
  have z : Hid (W51.heap.size = W49.heap.size + 1) := Lib.hid (by rw [hW51]; simp)
  have T5n := Lib.hid (T5.out.on b.out)
  have T7n := Lib.hid (T7.out.on b.out)
  have T8n := Lib.hid (T8.out.on b.out)
  have T9n := Lib.hid (T9.out.on b.out)
  have T18n := Lib.hid (T18.out.on b.out)
  have T22n := Lib.hid (T22.out.on b.out)
  have T26n := Lib.hid (T26.out.on b.out)
  have BB53 : Hid (Below w.heap.size w W51) := Lib.hid (BB50.out.trans (b.out.mono BB50.out.size))
  clear BB50 T5 T7 T8 T9 T18 T22 T26
  have T5 := T5n
  clear T5n
  have T7 := T7n
  clear T7n
  have T8 := T8n
  clear T8n
  have T9 := T9n
  clear T9n
  have T18 := T18n
  clear T18n
  have T22 := T22n
  clear T22n
  have T26 := T26n
  clear T26n
  clear b
  obtain ⟨W52, hW52⟩ : ∃ W, W = W51.alloc (.cells #[.slice (some ⟨W49.heap.size, 0, none⟩) 2 2, .int .i64 9] 25) := ⟨_, rfl⟩
  have b : Hid (Below W51.heap.size W51 W52) := Lib.hid (by rw [hW52]; exact (Below.refl _ _).alloc (Nat.le_refl _) _)
  have NT28 : Hid (Tab W52 W51.heap.size (some ⟨W49.heap.size, 0, none⟩) 2 2 [17592186044416, 17592186044420] 9) := Lib.hid (by rw [hW52]; exact Tab.new rfl (by decide) s.out)
  rw [z.out] at NT28
  clear z s
  have T5n := Lib.hid (T5.out.on b.out)
  have T7n := Lib.hid (T7.out.on b.out)
  have T8n := Lib.hid (T8.out.on b.out)
  have T9n := Lib.hid (T9.out.on b.out)
  have T18n := Lib.hid (T18.out.on b.out)
  have T22n := Lib.hid (T22.out.on b.out)
  have T26n := Lib.hid (T26.out.on b.out)
  have BB54 : Hid (Below w.heap.size w W52) := Lib.hid (BB53.out.trans (b.out.mono BB53.out.size))
  clear BB53 T5 T7 T8 T9 T18 T22 T26
  have T5 := T5n
  clear T5n
  have T7 := T7n
  clear T7n
  have T8 := T8n
  clear T8n
  have T9 := T9n
  clear T9n
  have T18 := T18n
  clear T18n
  have T22 := T22n
  clear T22n
  have T26 := T26n
  clear T26n
  clear b
  have T28 := NT28
  clear NT28
  obtain ⟨T5c0, T5c1⟩ := T5.out.cells
  obtain ⟨T18c0, T18c1⟩ := T18.out.cells
  obtain ⟨T22c0, T22c1⟩ := T22.out.cells
  obtain ⟨T26c0, T26c1⟩ := T26.out.cells
  obtain ⟨T28c0, T28c1⟩ := T28.out.cells
  rw [hW52, hW51] at T5c0 T5c1 T18c0 T18c1 T22c0 T22c1 T26c0 T26c1 T28c0 T28c1
  go_wp2_with fail
  rw [← hW51, ← hW52]
  clear T5c0 T5c1 T18c0 T18c1 T22c0 T22c1 T26c0 T26c1 T28c0 T28c1
  clear hW51 hW52
  clear T5
  clear T18
  clear T22
  clear T26
  (with_reducible refine (T28.out.good false (by decide) (by decide)).mono ?_); rintro e' w55 ⟨rfl, b⟩
  have T7n := Lib.hid (T7.out.on b.out)
  have T8n := Lib.hid (T8.out.on b.out)
  have T9n := Lib.hid (T9.out.on b.out)
  have T28n := Lib.hid (T28.out.on b.out)
  have BB56 : Hid (Below w.heap.size w w55) := Lib.hid (BB54.out.trans (b.out.mono BB54.out.size))
  clear BB54 T7 T8 T9 T28
  have T7 := T7n
  clear T7n
  have T8 := T8n
  clear T8n
  have T9 := T9n
  clear T9n
  have T28 := T28n
  clear T28n
  clear b
  obtain ⟨T28c0, T28c1⟩ := T28.out.cells
  obtain ⟨T7c0, T7c1⟩ := T7.out.cells
  go_wp2_with fail
  (with_reducible refine (meet_of T28.out.len T7.out.len T28.out.sts T7.out.sts 0 (by decide) (by decide) m1).mono ?_); rintro e' w57 ⟨rfl, b⟩
  clear T28c0 T28c1 T7c0 T7c1
  have T7n := Lib.hid (T7.out.on b.out)
  have T8n := Lib.hid (T8.out.on b.out)
  have T9n := Lib.hid (T9.out.on b.out)
  have T28n := Lib.hid (T28.out.on b.out)
  have BB58 : Hid (Below w.heap.size w w57) := Lib.hid (BB56.out.trans (b.out.mono BB56.out.size))
  clear BB56 T7 T8 T9 T28
  have T7 := T7n
  clear T7n
  have T8 := T8n
  clear T8n
  have T9 := T9n
  clear T9n
  have T28 := T28n
  clear T28n
  clear b
  obtain ⟨T7c0, T7c1⟩ := T7.out.cells
  obtain ⟨T8c0, T8c1⟩ := T8.out.cells
  go_wp2_with fail
  (with_reducible refine (meet_of T7.out.len T8.out.len T7.out.sts T8.out.sts 4 (by decide) (by decide) m2).mono ?_); rintro e' w59 ⟨rfl, b⟩
  clear T7c0 T7c1 T8c0 T8c1
  have T7n := Lib.hid (T7.out.on b.out)
  have T8n := Lib.hid (T8.out.on b.out)
  have T9n := Lib.hid (T9.out.on b.out)
  have T28n := Lib.hid (T28.out.on b.out)
  have BB60 : Hid (Below w.heap.size w w59) := Lib.hid (BB58.out.trans (b.out.mono BB58.out.size))
  clear BB58 T7 T8 T9 T28
  have T7 := T7n
  clear T7n
  have T8 := T8n
  clear T8n
  have T9 := T9n
  clear T9n
  have T28 := T28n
  clear T28n
  clear b
  obtain ⟨T8c0, T8c1⟩ := T8.out.cells
  obtain ⟨T7c0, T7c1⟩ := T7.out.cells
  go_wp2_with fail
  (with_reducible refine (meet_of T8.out.len T7.out.len T8.out.sts T7.out.sts 4 (by decide) (by decide) m3).mono ?_); rintro e' w61 ⟨rfl, b⟩
  clear T8c0 T8c1 T7c0 T7c1
  have T7n := Lib.hid (T7.out.on b.out)
  have T8n := Lib.hid (T8.out.on b.out)
  have T9n := Lib.hid (T9.out.on b.out)
  have T28n := Lib.hid (T28.out.on b.out)
  have BB62 : Hid (Below w.heap.size w w61) := Lib.hid (BB60.out.trans (b.out.mono BB60.out.size))
  clear BB60 T7 T8 T9 T28
  have T7 := T7n
  clear T7n
  have T8 := T8n
  clear T8n
  have T9 := T9n
  clear T9n
  have T28 := T28n
  clear T28n
  clear b
  obtain ⟨T7c0, T7c1⟩ := T7.out.cells
  go_wp2_with fail
  (with_reducible refine (meet_of T7.out.len T7.out.len T7.out.sts T7.out.sts 9 (by decide) (by decide) m4).mono ?_); rintro e' w63 ⟨rfl, b⟩
  clear T7c0 T7c1
  have T7n := Lib.hid (T7.out.on b.out)
  have T8n := Lib.hid (T8.out.on b.out)
  have T9n := Lib.hid (T9.out.on b.out)
  have T28n := Lib.hid (T28.out.on b.out)
  have BB64 : Hid (Below w.heap.size w w63) := Lib.hid (BB62.out.trans (b.out.mono BB62.out.size))
  clear BB62 T7 T8 T9 T28
  have T7 := T7n
  clear T7n
  have T8 := T8n
  clear T8n
  have T9 := T9n
  clear T9n
  have T28 := T28n
  clear T28n
  clear b
  obtain ⟨T7c0, T7c1⟩ := T7.out.cells
  obtain ⟨T9c0, T9c1⟩ := T9.out.cells
  go_wp2_with fail
  (with_reducible refine (meet_of T7.out.len T9.out.len T7.out.sts T9.out.sts 0 (by decide) (by decide) m5).mono ?_); rintro e' w65 ⟨rfl, b⟩
  clear T7c0 T7c1 T9c0 T9c1
  have T7n := Lib.hid (T7.out.on b.out)
  have T8n := Lib.hid (T8.out.on b.out)
  have T9n := Lib.hid (T9.out.on b.out)
  have T28n := Lib.hid (T28.out.on b.out)
  have BB66 : Hid (Below w.heap.size w w65) := Lib.hid (BB64.out.trans (b.out.mono BB64.out.size))
  clear BB64 T7 T8 T9 T28
  have T7 := T7n
  clear T7n
  have T8 := T8n
  clear T8n
  have T9 := T9n
  clear T9n
  have T28 := T28n
  clear T28n
  clear b
  go_wp2_with fail
  (with_reducible refine (meet_of nil_len nil_len Sts.nil_ Sts.nil_ 7 (by decide) (by decide) m6).mono ?_); rintro e' w67 ⟨rfl, b⟩
  have T7n := Lib.hid (T7.out.on b.out)
  have T8n := Lib.hid (T8.out.on b.out)
  have T9n := Lib.hid (T9.out.on b.out)
  have T28n := Lib.hid (T28.out.on b.out)
  have BB68 : Hid (Below w.heap.size w w67) := Lib.hid (BB66.out.trans (b.out.mono BB66.out.size))
  clear BB66 T7 T8 T9 T28
  have T7 := T7n
  clear T7n
  have T8 := T8n
  clear T8n
  have T9 := T9n
  clear T9n
  have T28 := T28n
  clear T28n
  clear b
  obtain ⟨T7c0, T7c1⟩ := T7.out.cells
  go_wp2_with fail
  (with_reducible refine (meet_of nil_len T7.out.len Sts.nil_ T7.out.sts 0 (by decide) (by decide) m7).mono ?_); rintro e' w69 ⟨rfl, b⟩
  clear T7c0 T7c1
  have T7n := Lib.hid (T7.out.on b.out)
  have T8n := Lib.hid (T8.out.on b.out)
  have T9n := Lib.hid (T9.out.on b.out)
  have T28n := Lib.hid (T28.out.on b.out)
  have BB70 : Hid (Below w.heap.size w w69) := Lib.hid (BB68.out.trans (b.out.mono BB68.out.size))
  clear BB68 T7 T8 T9 T28
  have T7 := T7n
  clear T7n
  have T8 := T8n
  clear T8n
  have T9 := T9n
  clear T9n
  have T28 := T28n
  clear T28n
  clear b
  go_wp2
  go_ret
  exact ⟨rfl, BB70.out⟩
end Go.Proofs.Ytfidakogpgdnjaa
