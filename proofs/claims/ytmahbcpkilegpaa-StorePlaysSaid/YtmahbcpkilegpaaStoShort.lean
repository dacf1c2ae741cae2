/-
  bytes.Clone at every row of the store's own, and the two methods of a file: shortened, crashed.
-/
import Derived.Test.YtmahbcpkilegpaaStoName
import Derived.Lib.SliceRun
namespace Go.Proofs.Ytmahbcpkilegpaa
open Go.RowKit St

def ClonePost (w : World) (ys : List Int) (e : Ending) (w' : World) : Prop := ∃ zs A cap, Hid (zs = ys) ∧ e = .returned (.slice A zs.length cap) ∧ OwnB w' w.heap.size A cap zs ∧ Below w.heap.size w w'
theorem ClonePost.mk_ {w w' : World} {ys : List Int} {A : Option Addr} {cap n : Nat} (hn : n = ys.length) (h : OwnB w' w.heap.size A cap ys) (g : Below w.heap.size w w') : ClonePost w ys (.returned (.slice A n cap)) w' := by
  subst hn; exact ⟨ys, A, cap, Lib.hid rfl, rfl, h, g⟩
set_option maxHeartbeats 400000 in
theorem clone_some (b off : Nat) (p : List Int) (cap : Nat) (hl : p.length ≤ 1000000000) (w : World) (hp : Bytes w w.heap.size (some ⟨b, off, none⟩) p) :
    Calls Try.prog 43 #[.slice (some ⟨b, off, none⟩) p.length cap] w (ClonePost w p) := by
  have H := Lib.hid hp
  have HL := Lib.hid hl
  have hnil : (binOp .eql 28 (.slice (some ⟨b, off, none⟩) p.length cap) (.slice none 0 0)).run Try.prog w = .ok (.bool false) w := Lib.run_eql_slice_nil w 28 5 _ _ _ _ _ Try.underlying28
  clear hp hl
  go_enter Try.func43, Try.ntmps43
  go_wp2_with (at_builtin; refine wp_app rfl (.tmp 5) (.tmp 6) rfl rfl rfl (OwnB.start w w.heap.size (Nat.le_refl _)) (by simp) rfl rfl (H.out.below ((Below.refl _ _).alloc (Nat.le_refl _) _)) (by have := HL.out; simp; omega) ?_; intro A2 cap2 w2 o2 d2; rw [List.nil_append] at o2; have O2 := Lib.hid o2; have D2 := Lib.hid d2; clear o2 d2)
  go_ret
  exact ClonePost.mk_ (by simp) O2.out (((Below.refl _ _).alloc (Nat.le_refl _) _).trans D2.out.below)
theorem clone_none (cap : Nat) (w : World) : Calls Try.prog 43 #[.slice none 0 cap] w (ClonePost w []) := by
  have hnil : (binOp .eql 28 (.slice none 0 cap) (.slice none 0 0)).run Try.prog w = .ok (.bool true) w := Lib.run_eql_slice_nil w 28 5 _ _ _ _ _ Try.underlying28
  go_enter Try.func43, Try.ntmps43
  go_wp2
  go_ret
  exact ClonePost.mk_ (cap := 0) rfl (OwnB.none_ _ _) (Below.refl _ _)
theorem OwnB.addr {w : World} {base : Nat} {A : Option Addr} {cap : Nat} {zs : List Int} (h : OwnB w base A cap zs) : (A = none ∧ zs = [] ∧ cap = 0) ∨ ∃ g, A = some ⟨g, 0, none⟩ := by
  rcases h.1.2 with ⟨e, e0⟩ | ⟨g, c', cur, e, _⟩
  · injection e with e1 e2 e3
    exact .inl ⟨e1, List.eq_nil_of_length_eq_zero e0, e3⟩
  · injection e with e1 e2 e3
    exact .inr ⟨g, e1⟩
theorem clone_row (A : Option Addr) (p : List Int) (cap : Nat) (hl : p.length ≤ 1000000000) (w : World) (h : OwnB w 0 A cap p) : Calls Try.prog 43 #[.slice A p.length cap] w (ClonePost w p) := by
  rcases h.addr with ⟨rfl, rfl, rfl⟩ | ⟨g, rfl⟩
  · exact clone_none 0 w
  · exact clone_some g 0 p cap hl w h.bytes

def FilePost (w : World) (A : Option Addr) (ys : List Int) (sure : Nat) (e : Ending) (w' : World) : Prop :=
  ∃ zs A' cap', Hid (zs = ys) ∧ e = .returned (.agg #[.slice A' zs.length cap', .int .i64 (sure : Int)]) ∧ OwnB w' 0 A' cap' zs ∧ Below w.heap.size w w' ∧ Lies w A A'
theorem FilePost.mk_ {w w' : World} {A A' : Option Addr} {ys : List Int} {sure n cap' : Nat} {m : Int} (hn : n = ys.length) (hm : m = (sure : Int)) (h : OwnB w' 0 A' cap' ys) (hb : Below w.heap.size w w') (hl : Lies w A A') :
    FilePost w A ys sure (.returned (.agg #[.slice A' n cap', .int .i64 m])) w' := by
  subst hn hm; exact ⟨ys, A', cap', Lib.hid rfl, rfl, h, hb, hl⟩
theorem lies_new {w w' : World} {base : Nat} {A A' : Option Addr} {cap : Nat} {zs : List Int} (h : OwnB w' base A' cap zs) (hb : w.heap.size ≤ base) : Lies w A A' := fun a' ha' => by
  subst ha'; exact .inr (Nat.le_trans hb h.lt.1)
theorem two_alloc (w : World) (o o2 : Obj) : Below w.heap.size w ((w.alloc o).alloc o2) := ((Below.refl _ _).alloc (Nat.le_refl _) _).alloc (by simp) _
set_option maxHeartbeats 1000000 in
/-- The two tests decided: x is the least of the two numbers. -/
theorem short_keep (A : Option Addr) (zs : List Int) (cap sure n x : Nat) (hx : (sure ≤ n ∧ x = sure) ∨ (n < sure ∧ x = n)) (lt : (zs.take n).length = n) (hk : n ≤ cap) (n0 : (n : Int) ≤ 16777216) (k0 : (cap : Int) ≤ 9223372036854775807) (hc : ¬ (n : Int) < (cap : Int) / 4) (w : World) (h : OwnB w 0 A cap zs) :
    Calls Try.prog 39 #[.agg #[.slice A zs.length cap, .int .i64 (sure : Int)], .int .i64 (n : Int)] w (FilePost w A (zs.take n) x) := by
  have HH := Lib.hid h
  have HLT := Lib.hid lt
  have s1 : ∀ W, (Instr.slice 28 (.slice A zs.length cap) none (some (.int .i64 (n : Int))) none).run Try.prog W = .ok (.slice A n cap) W := fun W => slice_to A zs.length cap n hk .i64 W
  clear h lt hk
  rcases hx with ⟨h1, rfl⟩ | ⟨h1, rfl⟩
  · have h1' : (x : Int) ≤ (n : Int) := by omega
    clear h1
    go_enter Try.func39, Try.ntmps39
    go_wp2
    exact bodyPost_ret (v := .agg #[.slice A n cap, .int .i64 (x : Int)]) (by simp [results, Try.results39, go_sem]) rfl (FilePost.mk_ HLT.out.symm rfl ((HH.out.head n).grew (two_alloc _ _ _) (Nat.le_refl _)) (two_alloc _ _ _) (Lies.refl _ _))
  · have h1' : ¬ (sure : Int) ≤ (x : Int) := by omega
    clear h1
    go_enter Try.func39, Try.ntmps39
    go_wp2
    exact bodyPost_ret (v := .agg #[.slice A x cap, .int .i64 (x : Int)]) (by simp [results, Try.results39, go_sem]) rfl (FilePost.mk_ HLT.out.symm rfl ((HH.out.head x).grew (two_alloc _ _ _) (Nat.le_refl _)) (two_alloc _ _ _) (Lies.refl _ _))
set_option maxHeartbeats 1000000 in
theorem short_copy (A : Option Addr) (zs : List Int) (cap sure n x : Nat) (hx : (sure ≤ n ∧ x = sure) ∨ (n < sure ∧ x = n)) (lt : (zs.take n).length = n) (hk : n ≤ cap) (n0 : (n : Int) ≤ 16777216) (k0 : (cap : Int) ≤ 9223372036854775807) (hc : (n : Int) < (cap : Int) / 4) (w : World) (h : OwnB w 0 A cap zs) :
    Calls Try.prog 39 #[.agg #[.slice A zs.length cap, .int .i64 (sure : Int)], .int .i64 (n : Int)] w (FilePost w A (zs.take n) x) := by
  have HH := Lib.hid h
  have HLT := Lib.hid lt
  have s1 : ∀ W, (Instr.slice 28 (.slice A zs.length cap) none (some (.int .i64 (n : Int))) none).run Try.prog W = .ok (.slice A n cap) W := fun W => slice_to A zs.length cap n hk .i64 W
  have CL : Hid (∀ o o2, Calls Try.prog 43 #[.slice A n cap] ((w.alloc o).alloc o2) (ClonePost ((w.alloc o).alloc o2) (zs.take n))) := Lib.hid fun o o2 => by
    have := clone_row A (zs.take n) cap (by rw [lt]; omega) _ ((h.head n).grew (two_alloc w o o2) (Nat.le_refl _))
    rw [lt] at this
    exact this
  clear h lt hk
  rcases hx with ⟨h1, rfl⟩ | ⟨h1, rfl⟩
  · have h1' : (x : Int) ≤ (n : Int) := by omega
    clear h1
    go_enter Try.func39, Try.ntmps39
    go_wp2_with fail
    refine (CL.out _ _).mono ?_; rintro e w2 ⟨ys, A2, c2, hy, rfl, ho, hg⟩
    have B0 : Hid (w2.heap[w.heap.size]? = some (.cells #[.slice A zs.length cap, .int .i64 (x : Int)] 64 (0, 0))) := Lib.hid ((hg.block _ (by simp; omega)).trans (by rw [Below.heap_alloc _ _ _ (by simp)]; exact heap_alloc_new w _))
    have B1 : Hid (w2.heap[w.heap.size + 1]? = some (.cells #[.slice none 0 0, .int .i64 0] 64 (0, 0))) := Lib.hid ((hg.block _ (by simp)).trans (by
      have e : w.heap.size + 1 = (w.alloc (.cells #[.slice A zs.length cap, .int .i64 (x : Int)] 64)).heap.size := by simp
      rw [e]; exact heap_alloc_new _ _))
    have HO := Lib.hid ho
    have HG := Lib.hid ((two_alloc w _ _).trans (hg.mono (by simp; omega)))
    clear ho hg
    obtain ⟨⟨x0, x1⟩, _⟩ := obj2 B0.out
    obtain ⟨⟨y0, y1⟩, f0, f1⟩ := obj2 B1.out
    go_wp2
    have C1 := Lib.hid (obj_set (o := 0) B1.out (.slice A2 ys.length c2))
    have C2 := Lib.hid (obj_set (o := 1) C1.out (.int .i64 (x : Int)))
    obtain ⟨⟨q0, q1⟩, _⟩ := obj2 C2.out
    exact bodyPost_ret (v := .agg #[.slice A2 ys.length c2, .int .i64 (x : Int)]) (by simp [results, Try.results39, go_sem, q0, q1]) rfl
      (FilePost.mk_ (by rw [hy.out]) rfl (by rw [← hy.out]; exact ((HO.out.low (Nat.zero_le _)).set B1.out (by decide) 0 _).set C1.out (by decide) 1 _) ((HG.out.setCell (p := ⟨w.heap.size + 1, 0, none⟩) (Nat.le_succ _) _).setCell (p := ⟨w.heap.size + 1, 1, none⟩) (Nat.le_succ _) _)
        (lies_new HO.out (by simp; omega)))
  · have h1' : ¬ (sure : Int) ≤ (x : Int) := by omega
    clear h1
    go_enter Try.func39, Try.ntmps39
    go_wp2_with fail
    refine (CL.out _ _).mono ?_; rintro e w2 ⟨ys, A2, c2, hy, rfl, ho, hg⟩
    have B0 : Hid (w2.heap[w.heap.size]? = some (.cells #[.slice A zs.length cap, .int .i64 (sure : Int)] 64 (0, 0))) := Lib.hid ((hg.block _ (by simp; omega)).trans (by rw [Below.heap_alloc _ _ _ (by simp)]; exact heap_alloc_new w _))
    have B1 : Hid (w2.heap[w.heap.size + 1]? = some (.cells #[.slice none 0 0, .int .i64 0] 64 (0, 0))) := Lib.hid ((hg.block _ (by simp)).trans (by
      have e : w.heap.size + 1 = (w.alloc (.cells #[.slice A zs.length cap, .int .i64 (sure : Int)] 64)).heap.size := by simp
      rw [e]; exact heap_alloc_new _ _))
    have HO := Lib.hid ho
    have HG := Lib.hid ((two_alloc w _ _).trans (hg.mono (by simp; omega)))
    clear ho hg
    obtain ⟨⟨x0, x1⟩, _⟩ := obj2 B0.out
    obtain ⟨⟨y0, y1⟩, f0, f1⟩ := obj2 B1.out
    go_wp2
    have C1 := Lib.hid (obj_set (o := 0) B1.out (.slice A2 ys.length c2))
    have C2 := Lib.hid (obj_set (o := 1) C1.out (.int .i64 (x : Int)))
    obtain ⟨⟨q0, q1⟩, _⟩ := obj2 C2.out
    exact bodyPost_ret (v := .agg #[.slice A2 ys.length c2, .int .i64 (x : Int)]) (by simp [results, Try.results39, go_sem, q0, q1]) rfl
      (FilePost.mk_ (by rw [hy.out]) rfl (by rw [← hy.out]; exact ((HO.out.low (Nat.zero_le _)).set B1.out (by decide) 0 _).set C1.out (by decide) 1 _) ((HG.out.setCell (p := ⟨w.heap.size + 1, 0, none⟩) (Nat.le_succ _) _).setCell (p := ⟨w.heap.size + 1, 1, none⟩) (Nat.le_succ _) _)
        (lies_new HO.out (by simp; omega)))
theorem short_any (A : Option Addr) (zs : List Int) (cap sure n : Nat) (hn : n ≤ zs.length) (hz : zs.length ≤ 16777216) (w : World) (h : OwnB w 0 A cap zs) :
    Calls Try.prog 39 #[.agg #[.slice A zs.length cap, .int .i64 (sure : Int)], .int .i64 (n : Int)] w (FilePost w A (zs.take n) (min sure n)) := by
  have hcm := h.capmax
  have lt : (zs.take n).length = n := by rw [List.length_take]; omega
  have hx : (sure ≤ n ∧ min sure n = sure) ∨ (n < sure ∧ min sure n = n) := by omega
  by_cases hc : (n : Int) < (cap : Int) / 4
  · exact short_copy A zs cap sure n _ hx lt (by omega) (by omega) (by omega) hc w h
  · exact short_keep A zs cap sure n _ hx lt (by omega) (by omega) (by omega) hc w h

/-! ### crashed -/
set_option maxHeartbeats 1000000 in
theorem crashed_low (A : Option Addr) (zs : List Int) (cap sure n : Nat) (k : Int) (hk : k ≤ 0) (hx : n = sure) (hs : sure ≤ n) (hn : n ≤ zs.length) (hz : zs.length ≤ 16777216) (w : World) (h : OwnB w 0 A cap zs) :
    Calls Try.prog 42 #[.agg #[.slice A zs.length cap, .int .i64 (sure : Int)], .int .i64 k] w (FilePost w A (zs.take n) n) := by
  have hm : min sure n = sure := by omega
  have lt := Lib.hid (show (zs.take n).length = n by rw [List.length_take]; omega)
  have SH : Hid (∀ o o2, Calls Try.prog 39 #[.agg #[.slice A zs.length cap, .int .i64 (sure : Int)], .int .i64 ((sure : Int))] ((w.alloc o).alloc o2) (FilePost ((w.alloc o).alloc o2) A (zs.take n) sure)) := Lib.hid fun o o2 => by
    have := short_any A zs cap sure n hn hz _ (h.grew (two_alloc w o o2) (Nat.le_refl _))
    rw [hm] at this
    have hX : (n : Int) = ((sure : Int)) := by omega
    rw [hX] at this
    exact this
  have d0 : 0 ≤ (zs.length : Int) - (sure : Int) := by omega
  have d1 : (zs.length : Int) - (sure : Int) ≤ 16777216 := by omega
  have s0 : (sure : Int) ≤ 16777216 := by omega
  clear h hs hn hz hm hx
  go_enter Try.func42, Try.ntmps42
  go_wp2_with fail
  refine (SH.out _ _).mono ?_; rintro e w2 ⟨ys, A2, c2, hy, rfl, ho, hg, hl⟩
  have B0 : Hid (w2.heap[w.heap.size]? = some (.cells #[.slice A zs.length cap, .int .i64 (sure : Int)] 64 (0, 0))) := Lib.hid ((hg.block _ (by simp; omega)).trans (by rw [Below.heap_alloc _ _ _ (by simp)]; exact heap_alloc_new w _))
  have B1 : Hid (w2.heap[w.heap.size + 1]? = some (.cells #[.slice none 0 0, .int .i64 0] 64 (0, 0))) := Lib.hid ((hg.block _ (by simp)).trans (by
    have e : w.heap.size + 1 = (w.alloc (.cells #[.slice A zs.length cap, .int .i64 (sure : Int)] 64)).heap.size := by simp
    rw [e]; exact heap_alloc_new _ _))
  have HO := Lib.hid ho
  have HG := Lib.hid ((two_alloc w _ _).trans (hg.mono (by simp; omega)))
  have HL := Lib.hid hl
  have HS := Lib.hid hg.size
  clear ho hg hl
  obtain ⟨⟨x0, x1⟩, fx0, fx1⟩ := obj2 B0.out
  obtain ⟨⟨y0, y1⟩, f0, f1⟩ := obj2 B1.out
  have C1 := Lib.hid (obj_set (o := 0) B0.out (.slice A2 ys.length c2))
  have C2 := Lib.hid (obj_set (o := 1) C1.out (.int .i64 (sure : Int)))
  have C3 := Lib.hid (obj_set (o := 1) C2.out (.int .i64 (ys.length : Int)))
  obtain ⟨_, t1⟩ := (obj2 C2.out).1
  obtain ⟨q0, q1⟩ := (obj2 C3.out).1
  have E1 : Hid ((((w2.setCell ⟨w.heap.size, 0, none⟩ (.slice A2 ys.length c2)).setCell ⟨w.heap.size, 1, none⟩ (.int .i64 (sure : Int))).setCell ⟨w.heap.size, 1, none⟩ (.int .i64 (ys.length : Int))).heap[w.heap.size + 1]? = some (.cells #[.slice none 0 0, .int .i64 0] 64 (0, 0))) :=
    Lib.hid (by rw [Below.heap_setCell _ _ _ _ (by simp), Below.heap_setCell _ _ _ _ (by simp), Below.heap_setCell _ _ _ _ (by simp)]; exact B1.out)
  have E2 := Lib.hid (obj_set (o := 0) E1.out (.slice A2 ys.length c2))
  have E3 := Lib.hid (obj_set (o := 1) E2.out (.int .i64 (ys.length : Int)))
  have U := Lib.hid (obj2 E3.out).1
  clear d0 d1 s0 hk
  try clear hk2
  go_wp2
  obtain ⟨u0, u1⟩ := U.out
  exact bodyPost_ret (v := .agg #[.slice A2 ys.length c2, .int .i64 (ys.length : Int)]) (by simp [results, Try.results42, go_sem, u0, u1]) rfl
    (FilePost.mk_ (by rw [hy.out]) (by rw [hy.out, lt.out])
      (by rw [← hy.out]; exact ((((HO.out.set B0.out (by decide) 0 _).set C1.out (by decide) 1 _).set C2.out (by decide) 1 _).set E1.out (by decide) 0 _).set E2.out (by decide) 1 _)
      (((((HG.out.setCell (p := ⟨w.heap.size, 0, none⟩) (Nat.le_refl _) _).setCell (p := ⟨w.heap.size, 1, none⟩) (Nat.le_refl _) _).setCell (p := ⟨w.heap.size, 1, none⟩) (Nat.le_refl _) _).setCell (p := ⟨w.heap.size + 1, 0, none⟩) (Nat.le_succ _) _).setCell (p := ⟨w.heap.size + 1, 1, none⟩) (Nat.le_succ _) _)
      (fun a' ha' => by
        rcases HL.out a' ha' with h1 | h1
        · exact .inl h1
        · exact .inr (by simp at h1; omega)))
set_option maxHeartbeats 1000000 in
theorem crashed_mid (A : Option Addr) (zs : List Int) (cap sure n : Nat) (k : Int) (hk : 0 < k) (hk2 : k ≤ (zs.length : Int) - (sure : Int)) (hx : (n : Int) = (sure : Int) + k) (hs : sure ≤ n) (hn : n ≤ zs.length) (hz : zs.length ≤ 16777216) (w : World) (h : OwnB w 0 A cap zs) :
    Calls Try.prog 42 #[.agg #[.slice A zs.length cap, .int .i64 (sure : Int)], .int .i64 k] w (FilePost w A (zs.take n) n) := by
  have hm : min sure n = sure := by omega
  have lt := Lib.hid (show (zs.take n).length = n by rw [List.length_take]; omega)
  have SH : Hid (∀ o o2, Calls Try.prog 39 #[.agg #[.slice A zs.length cap, .int .i64 (sure : Int)], .int .i64 ((sure : Int) + k)] ((w.alloc o).alloc o2) (FilePost ((w.alloc o).alloc o2) A (zs.take n) sure)) := Lib.hid fun o o2 => by
    have := short_any A zs cap sure n hn hz _ (h.grew (two_alloc w o o2) (Nat.le_refl _))
    rw [hm] at this
    have hX : (n : Int) = ((sure : Int) + k) := by omega
    rw [hX] at this
    exact this
  have d0 : 0 ≤ (zs.length : Int) - (sure : Int) := by omega
  have d1 : (zs.length : Int) - (sure : Int) ≤ 16777216 := by omega
  have s0 : (sure : Int) ≤ 16777216 := by omega
  have n1 : (sure : Int) + k ≤ 16777216 := by omega
  have n2 : 0 ≤ (sure : Int) + k := by omega
  clear h hs hn hz hm hx
  go_enter Try.func42, Try.ntmps42
  go_wp2_with fail
  refine (SH.out _ _).mono ?_; rintro e w2 ⟨ys, A2, c2, hy, rfl, ho, hg, hl⟩
  have B0 : Hid (w2.heap[w.heap.size]? = some (.cells #[.slice A zs.length cap, .int .i64 (sure : Int)] 64 (0, 0))) := Lib.hid ((hg.block _ (by simp; omega)).trans (by rw [Below.heap_alloc _ _ _ (by simp)]; exact heap_alloc_new w _))
  have B1 : Hid (w2.heap[w.heap.size + 1]? = some (.cells #[.slice none 0 0, .int .i64 0] 64 (0, 0))) := Lib.hid ((hg.block _ (by simp)).trans (by
    have e : w.heap.size + 1 = (w.alloc (.cells #[.slice A zs.length cap, .int .i64 (sure : Int)] 64)).heap.size := by simp
    rw [e]; exact heap_alloc_new _ _))
  have HO := Lib.hid ho
  have HG := Lib.hid ((two_alloc w _ _).trans (hg.mono (by simp; omega)))
  have HL := Lib.hid hl
  have HS := Lib.hid hg.size
  clear ho hg hl
  obtain ⟨⟨x0, x1⟩, fx0, fx1⟩ := obj2 B0.out
  obtain ⟨⟨y0, y1⟩, f0, f1⟩ := obj2 B1.out
  have C1 := Lib.hid (obj_set (o := 0) B0.out (.slice A2 ys.length c2))
  have C2 := Lib.hid (obj_set (o := 1) C1.out (.int .i64 (sure : Int)))
  have C3 := Lib.hid (obj_set (o := 1) C2.out (.int .i64 (ys.length : Int)))
  obtain ⟨_, t1⟩ := (obj2 C2.out).1
  obtain ⟨q0, q1⟩ := (obj2 C3.out).1
  have E1 : Hid ((((w2.setCell ⟨w.heap.size, 0, none⟩ (.slice A2 ys.length c2)).setCell ⟨w.heap.size, 1, none⟩ (.int .i64 (sure : Int))).setCell ⟨w.heap.size, 1, none⟩ (.int .i64 (ys.length : Int))).heap[w.heap.size + 1]? = some (.cells #[.slice none 0 0, .int .i64 0] 64 (0, 0))) :=
    Lib.hid (by rw [Below.heap_setCell _ _ _ _ (by simp), Below.heap_setCell _ _ _ _ (by simp), Below.heap_setCell _ _ _ _ (by simp)]; exact B1.out)
  have E2 := Lib.hid (obj_set (o := 0) E1.out (.slice A2 ys.length c2))
  have E3 := Lib.hid (obj_set (o := 1) E2.out (.int .i64 (ys.length : Int)))
  have U := Lib.hid (obj2 E3.out).1
  clear d0 d1 s0 hk
  try clear hk2
  go_wp2
  obtain ⟨u0, u1⟩ := U.out
  exact bodyPost_ret (v := .agg #[.slice A2 ys.length c2, .int .i64 (ys.length : Int)]) (by simp [results, Try.results42, go_sem, u0, u1]) rfl
    (FilePost.mk_ (by rw [hy.out]) (by rw [hy.out, lt.out])
      (by rw [← hy.out]; exact ((((HO.out.set B0.out (by decide) 0 _).set C1.out (by decide) 1 _).set C2.out (by decide) 1 _).set E1.out (by decide) 0 _).set E2.out (by decide) 1 _)
      (((((HG.out.setCell (p := ⟨w.heap.size, 0, none⟩) (Nat.le_refl _) _).setCell (p := ⟨w.heap.size, 1, none⟩) (Nat.le_refl _) _).setCell (p := ⟨w.heap.size, 1, none⟩) (Nat.le_refl _) _).setCell (p := ⟨w.heap.size + 1, 0, none⟩) (Nat.le_succ _) _).setCell (p := ⟨w.heap.size + 1, 1, none⟩) (Nat.le_succ _) _)
      (fun a' ha' => by
        rcases HL.out a' ha' with h1 | h1
        · exact .inl h1
        · exact .inr (by simp at h1; omega)))
set_option maxHeartbeats 1000000 in
set_option maxRecDepth 20000 in
theorem crashed_high (A : Option Addr) (zs : List Int) (cap sure n : Nat) (k : Int) (hk : 0 < k) (hk2 : (zs.length : Int) - (sure : Int) < k) (hk3 : 0 < (zs.length : Int) - (sure : Int)) (hx : n = zs.length) (hs : sure ≤ n) (hn : n ≤ zs.length) (hz : zs.length ≤ 16777216) (w : World) (h : OwnB w 0 A cap zs) :
    Calls Try.prog 42 #[.agg #[.slice A zs.length cap, .int .i64 (sure : Int)], .int .i64 k] w (FilePost w A (zs.take n) n) := by
  have hm : min sure n = sure := by omega
  have lt := Lib.hid (show (zs.take n).length = n by rw [List.length_take]; omega)
  have SH : Hid (∀ o o2, Calls Try.prog 39 #[.agg #[.slice A zs.length cap, .int .i64 (sure : Int)], .int .i64 ((sure : Int) + ((zs.length : Int) - (sure : Int)))] ((w.alloc o).alloc o2) (FilePost ((w.alloc o).alloc o2) A (zs.take n) sure)) := Lib.hid fun o o2 => by
    have := short_any A zs cap sure n hn hz _ (h.grew (two_alloc w o o2) (Nat.le_refl _))
    rw [hm] at this
    have hX : (n : Int) = ((sure : Int) + ((zs.length : Int) - (sure : Int))) := by omega
    rw [hX] at this
    exact this
  have d1 : (zs.length : Int) - (sure : Int) ≤ 16777216 := by omega
  have s0 : (sure : Int) ≤ 16777216 := by omega
  clear h hs hn hz hm hx
  go_enter Try.func42, Try.ntmps42
  go_wp2_with fail
  refine (SH.out _ _).mono ?_; rintro e w2 ⟨ys, A2, c2, hy, rfl, ho, hg, hl⟩
  have B0 : Hid (w2.heap[w.heap.size]? = some (.cells #[.slice A zs.length cap, .int .i64 (sure : Int)] 64 (0, 0))) := Lib.hid ((hg.block _ (by simp; omega)).trans (by rw [Below.heap_alloc _ _ _ (by simp)]; exact heap_alloc_new w _))
  have B1 : Hid (w2.heap[w.heap.size + 1]? = some (.cells #[.slice none 0 0, .int .i64 0] 64 (0, 0))) := Lib.hid ((hg.block _ (by simp)).trans (by
    have e : w.heap.size + 1 = (w.alloc (.cells #[.slice A zs.length cap, .int .i64 (sure : Int)] 64)).heap.size := by simp
    rw [e]; exact heap_alloc_new _ _))
  have HO := Lib.hid ho
  have HG := Lib.hid ((two_alloc w _ _).trans (hg.mono (by simp; omega)))
  have HL := Lib.hid hl
  have HS := Lib.hid hg.size
  clear ho hg hl
  obtain ⟨⟨x0, x1⟩, fx0, fx1⟩ := obj2 B0.out
  obtain ⟨⟨y0, y1⟩, f0, f1⟩ := obj2 B1.out
  have C1 := Lib.hid (obj_set (o := 0) B0.out (.slice A2 ys.length c2))
  have C2 := Lib.hid (obj_set (o := 1) C1.out (.int .i64 (sure : Int)))
  have C3 := Lib.hid (obj_set (o := 1) C2.out (.int .i64 (ys.length : Int)))
  obtain ⟨_, t1⟩ := (obj2 C2.out).1
  obtain ⟨q0, q1⟩ := (obj2 C3.out).1
  have E1 : Hid ((((w2.setCell ⟨w.heap.size, 0, none⟩ (.slice A2 ys.length c2)).setCell ⟨w.heap.size, 1, none⟩ (.int .i64 (sure : Int))).setCell ⟨w.heap.size, 1, none⟩ (.int .i64 (ys.length : Int))).heap[w.heap.size + 1]? = some (.cells #[.slice none 0 0, .int .i64 0] 64 (0, 0))) :=
    Lib.hid (by rw [Below.heap_setCell _ _ _ _ (by simp), Below.heap_setCell _ _ _ _ (by simp), Below.heap_setCell _ _ _ _ (by simp)]; exact B1.out)
  have E2 := Lib.hid (obj_set (o := 0) E1.out (.slice A2 ys.length c2))
  have E3 := Lib.hid (obj_set (o := 1) E2.out (.int .i64 (ys.length : Int)))
  have U := Lib.hid (obj2 E3.out).1
  clear d1 s0 hk hk3
  try clear hk2
  go_wp2
  obtain ⟨u0, u1⟩ := U.out
  exact bodyPost_ret (v := .agg #[.slice A2 ys.length c2, .int .i64 (ys.length : Int)]) (by simp [results, Try.results42, go_sem, u0, u1]) rfl
    (FilePost.mk_ (by rw [hy.out]) (by rw [hy.out, lt.out])
      (by rw [← hy.out]; exact ((((HO.out.set B0.out (by decide) 0 _).set C1.out (by decide) 1 _).set C2.out (by decide) 1 _).set E1.out (by decide) 0 _).set E2.out (by decide) 1 _)
      (((((HG.out.setCell (p := ⟨w.heap.size, 0, none⟩) (Nat.le_refl _) _).setCell (p := ⟨w.heap.size, 1, none⟩) (Nat.le_refl _) _).setCell (p := ⟨w.heap.size, 1, none⟩) (Nat.le_refl _) _).setCell (p := ⟨w.heap.size + 1, 0, none⟩) (Nat.le_succ _) _).setCell (p := ⟨w.heap.size + 1, 1, none⟩) (Nat.le_succ _) _)
      (fun a' ha' => by
        rcases HL.out a' ha' with h1 | h1
        · exact .inl h1
        · exact .inr (by simp at h1; omega)))
theorem crashed_any (A : Option Addr) (zs : List Int) (cap sure : Nat) (k : Int) (hs : sure < zs.length) (hz : zs.length ≤ 16777216) (w : World) (h : OwnB w 0 A cap zs) :
    Calls Try.prog 42 #[.agg #[.slice A zs.length cap, .int .i64 (sure : Int)], .int .i64 k] w
      (FilePost w A (zs.take (sure + min k.toNat (zs.length - sure))) (sure + min k.toNat (zs.length - sure))) := by
  obtain ⟨n, hn⟩ : ∃ n, n = sure + min k.toNat (zs.length - sure) := ⟨_, rfl⟩
  rw [← hn]
  rcases Int.lt_or_le 0 k with h0 | h0
  · rcases Int.lt_or_le ((zs.length : Int) - (sure : Int)) k with h1 | h1
    · exact crashed_high A zs cap sure n k h0 h1 (by omega) (by omega) (by omega) (by omega) hz w h
    · exact crashed_mid A zs cap sure n k h0 h1 (by omega) (by omega) (by omega) hz w h
  · exact crashed_low A zs cap sure n k h0 (by omega) (by omega) (by omega) hz w h
end Go.Proofs.Ytmahbcpkilegpaa
