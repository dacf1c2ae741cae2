/-
  The program's areAllPlaced, leastPossible and isNode.
-/
import Derived.Test.YtgeefkfolejbnaaToAhead
import Derived.Test.YtgeefkfolejbnaaBoolRows
namespace Go.Proofs.Ytgeefkfolejbnaa
open Go.RowKit
/-- The row of bools at block g tells which of N nodes stand in L. -/
def Flg (w : World) (B g N : Nat) (L : List Nat) : Prop := g < B ∧ ∀ x, x < N → w.cell? ⟨g, x, none⟩ = some (.bool (decide (x ∈ L)))
theorem Flg.below {w w' : World} {B g N : Nat} {L : List Nat} (h : Flg w B g N L) (hb : Below B w w') : Flg w' B g N L := ⟨h.1, fun x hx => (hb.cell (p := ⟨g, x, none⟩) h.1).trans (h.2 x hx)⟩
theorem Flg.more {w : World} {B B' g N : Nat} {L : List Nat} (h : Flg w B g N L) (hB : B ≤ B') : Flg w B' g N L := ⟨Nat.lt_of_lt_of_le h.1 hB, h.2⟩
theorem Flg.on {w w' : World} {g N : Nat} {L : List Nat} (h : Flg w w.heap.size g N L) (hb : Below w.heap.size w w') : Flg w' w'.heap.size g N L := (h.below hb).more hb.size
theorem toNode_any (n : Int) (A : Option Addr) (l cap : Nat) (v : Int) (w : World) :
    Calls Try.prog 29 #[.agg #[.int .i64 n, .slice A l cap], .int .i64 v] w (BoolG w (decide (0 ≤ v) && decide (v < n))) := by
  have B1 : Hid (Below w.heap.size w (w.alloc (.cells #[.int .i64 n, .slice A l cap] 27))) := Lib.hid ((Below.refl _ _).alloc (Nat.le_refl _) _)
  go_enter Try.func29, Try.ntmps29
  by_cases h : 0 ≤ v
  · have hd : decide (0 ≤ v) = true := decide_eq_true h
    go_wp2
    go_ret
    exact ⟨ret_bool (by rw [hd]; rfl), B1⟩
  · have hd : decide (0 ≤ v) = false := decide_eq_false h
    go_wp2
    go_ret
    exact ⟨ret_bool (by first | rfl | (rw [hd]; rfl)), B1⟩
set_option maxHeartbeats 2000000 in
theorem allPlaced_any (A : Option Addr) (zs : List Nat) (cap g N : Nat) (L : List Nat) (hz : ∀ z ∈ zs, z < N) (hl : zs.length ≤ 1000000) (w : World) (h : Zs w w.heap.size A (Gr.ints zs)) (h2 : Flg w w.heap.size g N L) :
    Calls Try.prog 31 #[.slice A zs.length cap, .slice (some ⟨g, 0, none⟩) N N] w (BoolG w (zs.all fun a => L.contains a)) := by
  have H := Lib.hid h
  have H2 := Lib.hid h2
  have HZ := Lib.hid hz
  obtain ⟨n, hn⟩ : ∃ n, n = zs.length := ⟨_, rfl⟩
  have HN := Lib.hid hn
  rw [← hn] at hl ⊢
  clear h h2 hn hz
  go_enter Try.func31, Try.ntmps31
  go_wp2_with fail
  go_loopw [9] (fun iv wr => ∃ k : Nat, k ≤ n ∧ iv = .int .i64 k ∧ Hid (∀ z ∈ zs.take k, z ∈ L) ∧ Hid (Below w.heap.size w wr)) (fun iv _ => n - (intOf iv).toNat)
  case atStart => exact ⟨0, Nat.zero_le _, rfl, Lib.hid (by simp), Lib.hid (Below.refl _ _)⟩
  case round =>
    obtain ⟨k, hk, rfl, HK, HB⟩ := hrel
    by_cases hlt : k < n
    · have hlt' : (k : Int) < (n : Int) := by omega
      have hkz : k < zs.length := by rw [← HN.out]; exact hlt
      obtain ⟨b, off, y, rfl, hb, hc, hy, hy0, hy1⟩ := (H.out.below HB.out).at_ (k := k) (by rw [Gr.ints_len]; exact hkz)
      obtain ⟨z, hz⟩ : ∃ z, z = zs.getD k 0 := ⟨_, rfl⟩
      obtain rfl : y = (z : Int) := by rw [← hy.out, Gr.ints_get, hz]
      have hzN := HZ.out z (by rw [hz, List.getD_eq_getElem?_getD, List.getElem?_eq_getElem hkz]; exact List.getElem_mem hkz)
      have hzN' : (z : Int) < (N : Int) := by omega
      have hf := (H2.out.below HB.out).2 z hzN
      have TK : Hid (zs.take (k + 1) = zs.take k ++ [z]) := Lib.hid (by rw [List.take_succ_eq_append_getElem hkz, hz, List.getD_eq_getElem?_getD, List.getElem?_eq_getElem hkz]; rfl)
      by_cases hm : z ∈ L
      · have hd : decide (z ∈ L) = true := decide_eq_true hm
        rw [hd] at hf
        have HK' : Hid (∀ z ∈ zs.take (k + 1), z ∈ L) := Lib.hid (by
          rw [TK.out]
          intro u hu
          rcases List.mem_append.1 hu with hu | hu
          · exact HK.out u hu
          · simp at hu; rw [hu]; exact hm)
        clear hy hz hm hd
        go_wp2
        go_roundw
        case rel => exact ⟨k + 1, by omega, by go_num, HK', HB⟩
        case measure => simp [intOf]; omega
      · have hd : decide (z ∈ L) = false := decide_eq_false hm
        rw [hd] at hf
        have G0 : Hid ((zs.all fun a => L.contains a) = false) := Lib.hid (by
          rw [List.all_eq_false]
          refine ⟨z, by rw [hz, List.getD_eq_getElem?_getD, List.getElem?_eq_getElem hkz]; exact List.getElem_mem hkz, ?_⟩
          simpa using hm)
        clear hy hz hm hd
        go_wp2
        go_ret
        exact ⟨ret_bool G0.out.symm, HB⟩
    · obtain rfl : n = k := by omega
      have G0 : Hid ((zs.all fun a => L.contains a) = true) := Lib.hid (by
        have := HK.out
        rw [HN.out, List.take_length] at this
        rw [List.all_eq_true]
        intro z hz
        simpa using this z hz)
      go_wp2
      go_ret
      exact ⟨ret_bool G0.out.symm, HB⟩
/-- What the row of bools holds. -/
structure To.Fl (N : Nat) (L : List Nat) (bs : List Bool) : Prop where
  len : bs.length = N
  at_ : ∀ x, x < N → bs.getD x false = decide (x ∈ L)
theorem To.Fl.zero (N : Nat) : To.Fl N [] (List.replicate N false) := ⟨by simp, fun x hx => by rw [List.getD_eq_getElem?_getD, List.getElem?_replicate, if_pos hx]; simp⟩
theorem To.Fl.put {N : Nat} {L : List Nat} {bs : List Bool} (h : To.Fl N L bs) {q : Nat} (hq : q < N) : To.Fl N (L ++ [q]) (bs.set q true) :=
  ⟨by rw [List.length_set, h.len], fun x hx => by
    rw [List.getD_eq_getElem?_getD, List.getElem?_set]
    by_cases e : q = x
    · subst e
      rw [if_pos rfl, if_pos (by rw [h.len]; exact hq)]
      simp
    · rw [if_neg e, ← List.getD_eq_getElem?_getD, h.at_ x hx]
      have : x ∈ L ++ [q] ↔ x ∈ L := by simp [Ne.symm e]
      simp only [this]⟩
theorem OwnF.flg {w : World} {base g N : Nat} {L : List Nat} {bs : List Bool} (h : OwnF w base (some ⟨g, 0, none⟩) N bs) (hb : To.Fl N L bs) : Flg w w.heap.size g N L :=
  ⟨h.lt.2, fun x hx => by rw [h.val (by rw [hb.len]; exact hx), hb.at_ x hx]⟩
/-- A row that lies behind a block stands where the block is stored into. -/
theorem OwnZ.past {w : World} {base g : Nat} {A : Option Addr} {cap : Nat} {zs : List Int} (h : OwnZ w base A cap zs) (hg : g < base) (j : Nat) (v : Value) : OwnZ (w.setCell ⟨g, j, none⟩ v) base A cap zs :=
  h.keep fun a ha => heap_setCell_other w ⟨g, j, none⟩ a.block v (by subst ha; have := h.lt.1; exact fun e => by simp at e; omega)
theorem made_Z0 (n : Nat) (hn : n ≤ 1000000) (W : World) : (Instr.makeSlice 28 (.int .i64 0) (.int .i64 (n : Int))).run Try.prog W = .ok (.slice (some ⟨W.heap.size, 0, none⟩) 0 n) (W.alloc (.cells (madeCells #[.int .i64 0] n) 3)) := by
  obtain ⟨i, hi, hz, hs, hy⟩ := info_parts int_info
  have hr := run_make (P := Try.prog) W 28 3 i _ Try.underlying28 hi hz .i64 .i64 0 n (by omega) (by omega) (by rw [hy]; omega) (by omega)
  rw [hs, Int.toNat_natCast, Nat.mul_one] at hr
  exact hr
theorem OwnZ.made0 (W : World) (n : Nat) (hn : n ≤ 1000000) : OwnZ (W.alloc (.cells (madeCells #[.int .i64 0] n) 3)) W.heap.size (some ⟨W.heap.size, 0, none⟩) n [] := by
  have e : (madeCells #[Value.int .i64 0] n).toList = (List.replicate n (0 : Int)).map (Value.int .i64) := by
    rw [toList_madeCells_one (Value.int .i64 0) n, List.map_replicate]
  refine ⟨⟨by simp, .inr ⟨W.heap.size, n, _, rfl, Nat.le_refl _, heap_alloc_new .., Nat.zero_le _, by unfold maxLen; omega, ?_, by simp⟩⟩, fun i h => by simp at h⟩
  rw [← Array.length_toList, e]
  simp
/-- The least node that may stand next, if there is one. -/
def LeastG (w : World) (o : Option Nat) (e : Ending) (w' : World) : Prop := e = .returned (.tuple #[.int .i64 ((o.getD 0 : Nat) : Int), .bool o.isSome]) ∧ Hid (Below w.heap.size w w')
set_option maxRecDepth 100000 in
set_option maxHeartbeats 2000000 in
theorem leastPossible_any (E : Gr.E) (g gp N : Nat) (L : List Nat) (hE : Gr.Low E N) (hN : N ≤ 16) (hl : E.length ≤ 1000000) (w : World) (h : Bef w w.heap.size g E N) (h2 : Flg w w.heap.size gp N L) :
    Calls Try.prog 28 #[.slice (some ⟨g, 0, none⟩) N N, .slice (some ⟨gp, 0, none⟩) N N] w (LeastG w (To.next E N L)) := by
  have H := Lib.hid h
  have H2 := Lib.hid h2
  have HE := Lib.hid hE
  have AP : Hid (∀ W q A cap, q < N → Below w.heap.size w W → Zs W W.heap.size A (Gr.ints (To.befV E q)) → Calls Try.prog 31 #[.slice A (To.befV E q).length cap, .slice (some ⟨gp, 0, none⟩) N N] W (BoolG W ((To.befV E q).all fun a => L.contains a))) := Lib.hid fun W q A cap hq hW hZ =>
    allPlaced_any A (To.befV E q) cap gp N L (fun z hz => (hE _ (To.mem_bef.1 hz)).1) (Nat.le_trans (To.bef_len _ _) hl) W hZ (h2.on hW)
  clear h h2 hE hl
  go_enter Try.func28, Try.ntmps28
  go_wp2_with fail
  go_loopw [10] (fun iv wr => ∃ k : Nat, k ≤ N ∧ iv = .int .i64 k ∧ Hid (∀ y, y < k → To.ready E N L y = false) ∧ Hid (Below w.heap.size w wr)) (fun iv _ => N - (intOf iv).toNat)
  case atStart => exact ⟨0, Nat.zero_le _, rfl, Lib.hid fun y hy => by omega, Lib.hid (Below.refl _ _)⟩
  case round =>
    obtain ⟨k, hk, rfl, HK, HB⟩ := hrel
    by_cases hlt : k < N
    · have hlt' : (k : Int) < (N : Int) := by omega
      obtain ⟨A, cap, hc, hz⟩ := (H.out.below HB.out).2 k hlt
      have hf := (H2.out.below HB.out).2 k hlt
      have RB : Hid (To.ready E N L k = (!L.contains k && (To.befV E k).all fun a => L.contains a)) := Lib.hid (To.ready_bef HE.out L k)
      have AC : Hid (Calls Try.prog 31 #[.slice A (To.befV E k).length cap, .slice (some ⟨gp, 0, none⟩) N N] wr (BoolG wr ((To.befV E k).all fun a => L.contains a))) := Lib.hid (AP.out wr k A cap hlt HB.out (hz.more HB.out.size))
      obtain ⟨m, hm⟩ : ∃ m, m = (To.befV E k).length := ⟨_, rfl⟩
      obtain ⟨t, ht⟩ : ∃ t, t = (To.befV E k).all fun a => L.contains a := ⟨_, rfl⟩
      rw [← hm] at hc AC
      rw [← ht] at AC RB
      clear hz hm ht
      by_cases hmL : k ∈ L
      · have hd : decide (k ∈ L) = true := decide_eq_true hmL
        rw [hd] at hf
        have HK' : Hid (∀ y, y < k + 1 → To.ready E N L y = false) := Lib.hid fun y hy => by
          rcases Nat.lt_or_ge y k with h | h
          · exact HK.out y h
          · obtain rfl : y = k := by omega
            rw [RB.out, show L.contains y = true by simpa using hmL]; rfl
        clear hmL hd
        go_wp2
        go_roundw
        case rel => exact ⟨k + 1, by omega, by go_num, HK', HB⟩
        case measure => simp [intOf]; omega
      · have hd : decide (k ∈ L) = false := decide_eq_false hmL
        rw [hd] at hf
        have RT : Hid (To.ready E N L k = t) := Lib.hid (by rw [RB.out, show L.contains k = false by simpa using hmL]; rfl)
        clear hmL hd RB
        go_wp2_with fail
        (with_reducible refine AC.out.mono ?_); rintro e w2 ⟨rfl, b2⟩
        have B2 : Hid (Below w.heap.size w w2) := Lib.hid (HB.out.trans (b2.out.mono HB.out.size))
        cases t with
        | true =>
          have NX : Hid (To.next E N L = some k) := Lib.hid (To.next_eq hlt RT.out HK.out)
          go_wp2_with fail
          refine bodyPost_ret (v := .tuple #[.int .i64 (k : Int), .bool true]) (by simp [results, Try.results28, go_sem]) rfl ?_
          rw [NX.out]
          exact ⟨rfl, B2⟩
        | false =>
          have HK' : Hid (∀ y, y < k + 1 → To.ready E N L y = false) := Lib.hid fun y hy => by
            rcases Nat.lt_or_ge y k with h | h
            · exact HK.out y h
            · obtain rfl : y = k := by omega
              exact RT.out
          go_wp2
          go_roundw
          case rel => exact ⟨k + 1, by omega, by go_num, HK', B2⟩
          case measure => simp [intOf]; omega
    · obtain rfl : N = k := by omega
      have NX : Hid (To.next E N L = none) := Lib.hid (To.next_none.2 HK.out)
      go_wp2_with fail
      refine bodyPost_ret (v := .tuple #[.int .i64 0, .bool false]) (by simp [results, Try.results28, go_sem]) rfl ?_
      rw [NX.out]
      exact ⟨rfl, HB⟩
end Go.Proofs.Ytgeefkfolejbnaa
